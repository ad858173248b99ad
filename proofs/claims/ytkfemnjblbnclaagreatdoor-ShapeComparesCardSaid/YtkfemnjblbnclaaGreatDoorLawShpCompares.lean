/- Which of any right values is ahead; any three are in order: the walk of the statement's function (written by gen/mklaw12.py). -/
import Derived.Test.YtkfemnjblbnclaaGreatDoorShpRefCmp
import Derived.Test.YtkfemnjblbnclaaGreatDoorShpAwake
import Derived.Test.YtkfemnjblbnclaaGreatDoorShpEq
import Derived.Test.YtkfemnjblbnclaaGreatDoorGRefRight
namespace Go.Proofs.YtkfemnjblbnclaaGreatDoor
open Go.RowKit

set_option maxRecDepth 100000 in
set_option maxHeartbeats 8000000 in
theorem shapeCompares_calls (a b c : TermL) (ha : a.ok) (hb : b.ok) (hc : c.ok) (w : World) (hg : Nm.Good w) :
    Calls Tryz.prog 3 #[a.v, b.v, c.v] w fun e w' => e = .returned (.bool true) ∧ Below w.heap.size w w' := by
  have HAB := Lib.hid (fun W hW => sCompare_calls a b ha hb W hW)
  have HBA := Lib.hid (fun W hW => sCompare_calls b a hb ha W hW)
  have HBC := Lib.hid (fun W hW => sCompare_calls b c hb hc W hW)
  have HAC := Lib.hid (fun W hW => sCompare_calls a c ha hc W hW)
  have HV := Lib.hid (fun W => rValue_calls a b ha hb W)
  have HAW := Lib.hid (fun W hW => awake_calls W hW)
  have HRA := Lib.hid (fun W => rRight_calls a.k (bs a.x) (bs a.y) (bs a.z) W ha.1 ha.2.1 ha.2.2)
  have HRB := Lib.hid (fun W => rRight_calls b.k (bs b.x) (bs b.y) (bs b.z) W hb.1 hb.2.1 hb.2.2)
  have HRC := Lib.hid (fun W => rRight_calls c.k (bs c.x) (bs c.y) (bs c.z) W hc.1 hc.2.1 hc.2.2)
  have HEQ := fun W => eq_terms a b W
  have hz := valP_zero a b
  have han := valP_anti a b
  have htr := valP_trans a b c
  have hrg := valP_range a b
  have hrg2 := valP_range b c
  have hrg3 := valP_range a c
  generalize valP a b = N at *
  generalize valP b a = M at *
  generalize valP b c = P at *
  generalize valP a c = Q at *
  have HE := Lib.hid (show decide (a = b) = (N == 0) by
    by_cases h : a = b
    · rw [decide_eq_true h, hz.2 h]; rfl
    · rw [decide_eq_false h]; exact (beq_eq_false_iff_ne.2 (fun e => h (hz.1 e))).symm)
  rw [HE.out] at HEQ
  clear ha hb hc hz HE
  simp only [TermL.v] at *
  obtain ⟨ak, ax, ay, az⟩ := a
  obtain ⟨bk, bx, by_, bz⟩ := b
  obtain ⟨ck, cx, cy, cz⟩ := c
  dsimp only at *
  obtain ⟨A, hA⟩ : ∃ A, w.heap.size = A := ⟨_, rfl⟩
  obtain ⟨W0, hW0⟩ : ∃ W0, ((w.alloc (.cells #[.int .i64 ak, .string (bs ax), .string (bs ay), .string (bs az)] 23)).alloc (.cells #[.int .i64 bk, .string (bs bx), .string (bs by_), .string (bs bz)] 23)).alloc (.cells #[.int .i64 ck, .string (bs cx), .string (bs cy), .string (bs cz)] 23) = W0 := ⟨_, rfl⟩
  have HB := Lib.hid (show Below w.heap.size w W0 by rw [← hW0]; exact fb2 (two_alloc _ _ _) (box_below _ _) (Nat.le_refl _))
  have HAA : Blk W0 A 23 #[.int .i64 ak, .string (bs ax), .string (bs ay), .string (bs az)] := by rw [← hW0, ← hA]; exact blk_alloc (blk_alloc (blk_new _ _ _) _) _
  have HBB : Blk W0 (A + 1) 23 #[.int .i64 bk, .string (bs bx), .string (bs by_), .string (bs bz)] := by
    have := blk_alloc (blk_new (w.alloc (.cells #[.int .i64 ak, .string (bs ax), .string (bs ay), .string (bs az)] 23)) 23 #[.int .i64 bk, .string (bs bx), .string (bs by_), .string (bs bz)]) (.cells #[.int .i64 ck, .string (bs cx), .string (bs cy), .string (bs cz)] 23)
    rw [hW0, World.size_alloc, hA] at this
    exact this
  have HCC : Blk W0 (A + 1 + 1) 23 #[.int .i64 ck, .string (bs cx), .string (bs cy), .string (bs cz)] := by
    have := blk_new ((w.alloc (.cells #[.int .i64 ak, .string (bs ax), .string (bs ay), .string (bs az)] 23)).alloc (.cells #[.int .i64 bk, .string (bs bx), .string (bs by_), .string (bs bz)] 23)) 23 #[.int .i64 ck, .string (bs cx), .string (bs cy), .string (bs cz)]
    rw [hW0, World.size_alloc, World.size_alloc, hA] at this
    exact this
  have hl : A + 1 + 1 < W0.heap.size := blk_lt HCC
  have HG := Lib.hid (hg.on HB.out)
  have HAE := Lib.hid hA
  have HW0 := Lib.hid hW0
  have a0 : W0.cell? ⟨A, 0, none⟩ = some (.int .i64 ak) := (blk_cell HAA 0).trans rfl
  have a1 : W0.cell? ⟨A, 1, none⟩ = some (.string (bs ax)) := (blk_cell HAA 1).trans rfl
  have a2 : W0.cell? ⟨A, 2, none⟩ = some (.string (bs ay)) := (blk_cell HAA 2).trans rfl
  have a3 : W0.cell? ⟨A, 3, none⟩ = some (.string (bs az)) := (blk_cell HAA 3).trans rfl
  have b0 : W0.cell? ⟨A + 1, 0, none⟩ = some (.int .i64 bk) := (blk_cell HBB 0).trans rfl
  have b1 : W0.cell? ⟨A + 1, 1, none⟩ = some (.string (bs bx)) := (blk_cell HBB 1).trans rfl
  have b2 : W0.cell? ⟨A + 1, 2, none⟩ = some (.string (bs by_)) := (blk_cell HBB 2).trans rfl
  have b3 : W0.cell? ⟨A + 1, 3, none⟩ = some (.string (bs bz)) := (blk_cell HBB 3).trans rfl
  have c0 : W0.cell? ⟨A + 1 + 1, 0, none⟩ = some (.int .i64 ck) := (blk_cell HCC 0).trans rfl
  have c1 : W0.cell? ⟨A + 1 + 1, 1, none⟩ = some (.string (bs cx)) := (blk_cell HCC 1).trans rfl
  have c2 : W0.cell? ⟨A + 1 + 1, 2, none⟩ = some (.string (bs cy)) := (blk_cell HCC 2).trans rfl
  have c3 : W0.cell? ⟨A + 1 + 1, 3, none⟩ = some (.string (bs cz)) := (blk_cell HCC 3).trans rfl
  clear hg hA hW0 HAA HBB HCC
  go_enter Tryz.func3, Tryz.ntmps3
  go_wp2_with fail
  rw [HW0.out, HAE.out]
  refine (HAB.out _ HG.out).mono ?_
  rintro e w1 ⟨rfl, hb⟩
  replace a0 := keptC a0 hb (by omega)
  replace a1 := keptC a1 hb (by omega)
  replace a2 := keptC a2 hb (by omega)
  replace a3 := keptC a3 hb (by omega)
  replace b0 := keptC b0 hb (by omega)
  replace b1 := keptC b1 hb (by omega)
  replace b2 := keptC b2 hb (by omega)
  replace b3 := keptC b3 hb (by omega)
  replace c0 := keptC c0 hb (by omega)
  replace c1 := keptC c1 hb (by omega)
  replace c2 := keptC c2 hb (by omega)
  replace c3 := keptC c3 hb (by omega)
  replace hl := Nat.lt_of_lt_of_le hl hb.size
  replace HG := Lib.hid (HG.out.on hb)
  replace HB := Lib.hid (fb2 HB.out hb (Nat.le_refl _))
  clear hb HAB HW0 HAE
  simp only [bs_data] at HRA HRB HRC
  cases hra : rightL ak ax ay az with
  | false =>
    rw [hra] at HRA
    go_wp2_with fail
    refine (HRA.out _).mono ?_
    rintro e w2 ⟨rfl, hb⟩
    replace a0 := keptC a0 hb (by omega)
    replace a1 := keptC a1 hb (by omega)
    replace a2 := keptC a2 hb (by omega)
    replace a3 := keptC a3 hb (by omega)
    replace b0 := keptC b0 hb (by omega)
    replace b1 := keptC b1 hb (by omega)
    replace b2 := keptC b2 hb (by omega)
    replace b3 := keptC b3 hb (by omega)
    replace c0 := keptC c0 hb (by omega)
    replace c1 := keptC c1 hb (by omega)
    replace c2 := keptC c2 hb (by omega)
    replace c3 := keptC c3 hb (by omega)
    replace hl := Nat.lt_of_lt_of_le hl hb.size
    replace HG := Lib.hid (HG.out.on hb)
    replace HB := Lib.hid (fb2 HB.out hb (Nat.le_refl _))
    clear hb
    go_wp2_with fail
    refine (HAW.out _ HG.out).mono ?_
    rintro e w3 ⟨rfl, hb⟩
    replace a0 := keptC a0 hb (by omega)
    replace a1 := keptC a1 hb (by omega)
    replace a2 := keptC a2 hb (by omega)
    replace a3 := keptC a3 hb (by omega)
    replace b0 := keptC b0 hb (by omega)
    replace b1 := keptC b1 hb (by omega)
    replace b2 := keptC b2 hb (by omega)
    replace b3 := keptC b3 hb (by omega)
    replace c0 := keptC c0 hb (by omega)
    replace c1 := keptC c1 hb (by omega)
    replace c2 := keptC c2 hb (by omega)
    replace c3 := keptC c3 hb (by omega)
    replace hl := Nat.lt_of_lt_of_le hl hb.size
    replace HG := Lib.hid (HG.out.on hb)
    replace HB := Lib.hid (fb2 HB.out hb (Nat.le_refl _))
    clear hb
    go_wp2
    go_ret
    exact ⟨rfl, HB.out⟩
  | true =>
    rw [hra] at HRA
    go_wp2_with fail
    refine (HRA.out _).mono ?_
    rintro e w4 ⟨rfl, hb⟩
    replace a0 := keptC a0 hb (by omega)
    replace a1 := keptC a1 hb (by omega)
    replace a2 := keptC a2 hb (by omega)
    replace a3 := keptC a3 hb (by omega)
    replace b0 := keptC b0 hb (by omega)
    replace b1 := keptC b1 hb (by omega)
    replace b2 := keptC b2 hb (by omega)
    replace b3 := keptC b3 hb (by omega)
    replace c0 := keptC c0 hb (by omega)
    replace c1 := keptC c1 hb (by omega)
    replace c2 := keptC c2 hb (by omega)
    replace c3 := keptC c3 hb (by omega)
    replace hl := Nat.lt_of_lt_of_le hl hb.size
    replace HG := Lib.hid (HG.out.on hb)
    replace HB := Lib.hid (fb2 HB.out hb (Nat.le_refl _))
    clear hb
    cases hrb : rightL bk bx by_ bz with
    | false =>
      rw [hrb] at HRB
      go_wp2_with fail
      refine (HRB.out _).mono ?_
      rintro e w5 ⟨rfl, hb⟩
      replace a0 := keptC a0 hb (by omega)
      replace a1 := keptC a1 hb (by omega)
      replace a2 := keptC a2 hb (by omega)
      replace a3 := keptC a3 hb (by omega)
      replace b0 := keptC b0 hb (by omega)
      replace b1 := keptC b1 hb (by omega)
      replace b2 := keptC b2 hb (by omega)
      replace b3 := keptC b3 hb (by omega)
      replace c0 := keptC c0 hb (by omega)
      replace c1 := keptC c1 hb (by omega)
      replace c2 := keptC c2 hb (by omega)
      replace c3 := keptC c3 hb (by omega)
      replace hl := Nat.lt_of_lt_of_le hl hb.size
      replace HG := Lib.hid (HG.out.on hb)
      replace HB := Lib.hid (fb2 HB.out hb (Nat.le_refl _))
      clear hb
      go_wp2_with fail
      refine (HAW.out _ HG.out).mono ?_
      rintro e w6 ⟨rfl, hb⟩
      replace a0 := keptC a0 hb (by omega)
      replace a1 := keptC a1 hb (by omega)
      replace a2 := keptC a2 hb (by omega)
      replace a3 := keptC a3 hb (by omega)
      replace b0 := keptC b0 hb (by omega)
      replace b1 := keptC b1 hb (by omega)
      replace b2 := keptC b2 hb (by omega)
      replace b3 := keptC b3 hb (by omega)
      replace c0 := keptC c0 hb (by omega)
      replace c1 := keptC c1 hb (by omega)
      replace c2 := keptC c2 hb (by omega)
      replace c3 := keptC c3 hb (by omega)
      replace hl := Nat.lt_of_lt_of_le hl hb.size
      replace HG := Lib.hid (HG.out.on hb)
      replace HB := Lib.hid (fb2 HB.out hb (Nat.le_refl _))
      clear hb
      go_wp2
      go_ret
      exact ⟨rfl, HB.out⟩
    | true =>
      rw [hrb] at HRB
      go_wp2_with fail
      refine (HRB.out _).mono ?_
      rintro e w7 ⟨rfl, hb⟩
      replace a0 := keptC a0 hb (by omega)
      replace a1 := keptC a1 hb (by omega)
      replace a2 := keptC a2 hb (by omega)
      replace a3 := keptC a3 hb (by omega)
      replace b0 := keptC b0 hb (by omega)
      replace b1 := keptC b1 hb (by omega)
      replace b2 := keptC b2 hb (by omega)
      replace b3 := keptC b3 hb (by omega)
      replace c0 := keptC c0 hb (by omega)
      replace c1 := keptC c1 hb (by omega)
      replace c2 := keptC c2 hb (by omega)
      replace c3 := keptC c3 hb (by omega)
      replace hl := Nat.lt_of_lt_of_le hl hb.size
      replace HG := Lib.hid (HG.out.on hb)
      replace HB := Lib.hid (fb2 HB.out hb (Nat.le_refl _))
      clear hb
      cases hrc : rightL ck cx cy cz with
      | false =>
        rw [hrc] at HRC
        go_wp2_with fail
        refine (HRC.out _).mono ?_
        rintro e w8 ⟨rfl, hb⟩
        replace a0 := keptC a0 hb (by omega)
        replace a1 := keptC a1 hb (by omega)
        replace a2 := keptC a2 hb (by omega)
        replace a3 := keptC a3 hb (by omega)
        replace b0 := keptC b0 hb (by omega)
        replace b1 := keptC b1 hb (by omega)
        replace b2 := keptC b2 hb (by omega)
        replace b3 := keptC b3 hb (by omega)
        replace c0 := keptC c0 hb (by omega)
        replace c1 := keptC c1 hb (by omega)
        replace c2 := keptC c2 hb (by omega)
        replace c3 := keptC c3 hb (by omega)
        replace hl := Nat.lt_of_lt_of_le hl hb.size
        replace HG := Lib.hid (HG.out.on hb)
        replace HB := Lib.hid (fb2 HB.out hb (Nat.le_refl _))
        clear hb
        go_wp2_with fail
        refine (HAW.out _ HG.out).mono ?_
        rintro e w9 ⟨rfl, hb⟩
        replace a0 := keptC a0 hb (by omega)
        replace a1 := keptC a1 hb (by omega)
        replace a2 := keptC a2 hb (by omega)
        replace a3 := keptC a3 hb (by omega)
        replace b0 := keptC b0 hb (by omega)
        replace b1 := keptC b1 hb (by omega)
        replace b2 := keptC b2 hb (by omega)
        replace b3 := keptC b3 hb (by omega)
        replace c0 := keptC c0 hb (by omega)
        replace c1 := keptC c1 hb (by omega)
        replace c2 := keptC c2 hb (by omega)
        replace c3 := keptC c3 hb (by omega)
        replace hl := Nat.lt_of_lt_of_le hl hb.size
        replace HG := Lib.hid (HG.out.on hb)
        replace HB := Lib.hid (fb2 HB.out hb (Nat.le_refl _))
        clear hb
        go_wp2
        go_ret
        exact ⟨rfl, HB.out⟩
      | true =>
        rw [hrc] at HRC
        go_wp2_with fail
        refine (HRC.out _).mono ?_
        rintro e w10 ⟨rfl, hb⟩
        replace a0 := keptC a0 hb (by omega)
        replace a1 := keptC a1 hb (by omega)
        replace a2 := keptC a2 hb (by omega)
        replace a3 := keptC a3 hb (by omega)
        replace b0 := keptC b0 hb (by omega)
        replace b1 := keptC b1 hb (by omega)
        replace b2 := keptC b2 hb (by omega)
        replace b3 := keptC b3 hb (by omega)
        replace c0 := keptC c0 hb (by omega)
        replace c1 := keptC c1 hb (by omega)
        replace c2 := keptC c2 hb (by omega)
        replace c3 := keptC c3 hb (by omega)
        replace hl := Nat.lt_of_lt_of_le hl hb.size
        replace HG := Lib.hid (HG.out.on hb)
        replace HB := Lib.hid (fb2 HB.out hb (Nat.le_refl _))
        clear hb
        clear HRA HRB HRC hra hrb hrc
        by_cases hak : ak = 4
        · have gak : (ak == 4) = true := beq_iff_eq.2 hak
          clear hak
          go_wp2_with fail
          refine (HAW.out _ HG.out).mono ?_
          rintro e w11 ⟨rfl, hb⟩
          replace a0 := keptC a0 hb (by omega)
          replace a1 := keptC a1 hb (by omega)
          replace a2 := keptC a2 hb (by omega)
          replace a3 := keptC a3 hb (by omega)
          replace b0 := keptC b0 hb (by omega)
          replace b1 := keptC b1 hb (by omega)
          replace b2 := keptC b2 hb (by omega)
          replace b3 := keptC b3 hb (by omega)
          replace c0 := keptC c0 hb (by omega)
          replace c1 := keptC c1 hb (by omega)
          replace c2 := keptC c2 hb (by omega)
          replace c3 := keptC c3 hb (by omega)
          replace hl := Nat.lt_of_lt_of_le hl hb.size
          replace HG := Lib.hid (HG.out.on hb)
          replace HB := Lib.hid (fb2 HB.out hb (Nat.le_refl _))
          clear hb
          go_wp2
          go_ret
          exact ⟨rfl, HB.out⟩
        have gak : (ak == 4) = false := beq_eq_false_iff_ne.2 hak
        clear hak
        by_cases hbk : bk = 4
        · have gbk : (bk == 4) = true := beq_iff_eq.2 hbk
          clear hbk
          go_wp2_with fail
          refine (HAW.out _ HG.out).mono ?_
          rintro e w12 ⟨rfl, hb⟩
          replace a0 := keptC a0 hb (by omega)
          replace a1 := keptC a1 hb (by omega)
          replace a2 := keptC a2 hb (by omega)
          replace a3 := keptC a3 hb (by omega)
          replace b0 := keptC b0 hb (by omega)
          replace b1 := keptC b1 hb (by omega)
          replace b2 := keptC b2 hb (by omega)
          replace b3 := keptC b3 hb (by omega)
          replace c0 := keptC c0 hb (by omega)
          replace c1 := keptC c1 hb (by omega)
          replace c2 := keptC c2 hb (by omega)
          replace c3 := keptC c3 hb (by omega)
          replace hl := Nat.lt_of_lt_of_le hl hb.size
          replace HG := Lib.hid (HG.out.on hb)
          replace HB := Lib.hid (fb2 HB.out hb (Nat.le_refl _))
          clear hb
          go_wp2
          go_ret
          exact ⟨rfl, HB.out⟩
        have gbk : (bk == 4) = false := beq_eq_false_iff_ne.2 hbk
        clear hbk
        by_cases hck : ck = 4
        · have gck : (ck == 4) = true := beq_iff_eq.2 hck
          clear hck
          go_wp2_with fail
          refine (HAW.out _ HG.out).mono ?_
          rintro e w13 ⟨rfl, hb⟩
          replace a0 := keptC a0 hb (by omega)
          replace a1 := keptC a1 hb (by omega)
          replace a2 := keptC a2 hb (by omega)
          replace a3 := keptC a3 hb (by omega)
          replace b0 := keptC b0 hb (by omega)
          replace b1 := keptC b1 hb (by omega)
          replace b2 := keptC b2 hb (by omega)
          replace b3 := keptC b3 hb (by omega)
          replace c0 := keptC c0 hb (by omega)
          replace c1 := keptC c1 hb (by omega)
          replace c2 := keptC c2 hb (by omega)
          replace c3 := keptC c3 hb (by omega)
          replace hl := Nat.lt_of_lt_of_le hl hb.size
          replace HG := Lib.hid (HG.out.on hb)
          replace HB := Lib.hid (fb2 HB.out hb (Nat.le_refl _))
          clear hb
          go_wp2
          go_ret
          exact ⟨rfl, HB.out⟩
        have gck : (ck == 4) = false := beq_eq_false_iff_ne.2 hck
        clear hck
        have gN : (N != N) = false := bne_self_eq_false _
        have gM : (N != -M) = false := by rw [show -M = N by omega]; exact gN
        have gZ : ((N == 0) != (N == 0)) = false := bne_self_eq_false _
        go_wp2_with fail
        refine (HV.out _).mono ?_
        rintro e w14 ⟨rfl, hb⟩
        replace a0 := keptC a0 hb (by omega)
        replace a1 := keptC a1 hb (by omega)
        replace a2 := keptC a2 hb (by omega)
        replace a3 := keptC a3 hb (by omega)
        replace b0 := keptC b0 hb (by omega)
        replace b1 := keptC b1 hb (by omega)
        replace b2 := keptC b2 hb (by omega)
        replace b3 := keptC b3 hb (by omega)
        replace c0 := keptC c0 hb (by omega)
        replace c1 := keptC c1 hb (by omega)
        replace c2 := keptC c2 hb (by omega)
        replace c3 := keptC c3 hb (by omega)
        replace hl := Nat.lt_of_lt_of_le hl hb.size
        replace HG := Lib.hid (HG.out.on hb)
        replace HB := Lib.hid (fb2 HB.out hb (Nat.le_refl _))
        clear hb
        go_wp2_with fail
        refine (HBA.out _ HG.out).mono ?_
        rintro e w15 ⟨rfl, hb⟩
        replace a0 := keptC a0 hb (by omega)
        replace a1 := keptC a1 hb (by omega)
        replace a2 := keptC a2 hb (by omega)
        replace a3 := keptC a3 hb (by omega)
        replace b0 := keptC b0 hb (by omega)
        replace b1 := keptC b1 hb (by omega)
        replace b2 := keptC b2 hb (by omega)
        replace b3 := keptC b3 hb (by omega)
        replace c0 := keptC c0 hb (by omega)
        replace c1 := keptC c1 hb (by omega)
        replace c2 := keptC c2 hb (by omega)
        replace c3 := keptC c3 hb (by omega)
        replace hl := Nat.lt_of_lt_of_le hl hb.size
        replace HG := Lib.hid (HG.out.on hb)
        replace HB := Lib.hid (fb2 HB.out hb (Nat.le_refl _))
        clear hb
        by_cases hn : 0 < N
        · skip
          go_wp2_with fail
          refine (HAW.out _ HG.out).mono ?_
          rintro e w16 ⟨rfl, hb⟩
          replace a0 := keptC a0 hb (by omega)
          replace a1 := keptC a1 hb (by omega)
          replace a2 := keptC a2 hb (by omega)
          replace a3 := keptC a3 hb (by omega)
          replace b0 := keptC b0 hb (by omega)
          replace b1 := keptC b1 hb (by omega)
          replace b2 := keptC b2 hb (by omega)
          replace b3 := keptC b3 hb (by omega)
          replace c0 := keptC c0 hb (by omega)
          replace c1 := keptC c1 hb (by omega)
          replace c2 := keptC c2 hb (by omega)
          replace c3 := keptC c3 hb (by omega)
          replace hl := Nat.lt_of_lt_of_le hl hb.size
          replace HG := Lib.hid (HG.out.on hb)
          replace HB := Lib.hid (fb2 HB.out hb (Nat.le_refl _))
          clear hb
          go_wp2
          go_ret
          exact ⟨rfl, HB.out⟩
        have hn2 : ¬ 0 < N := hn
        go_wp2_with fail
        refine (HBC.out _ HG.out).mono ?_
        rintro e w17 ⟨rfl, hb⟩
        replace a0 := keptC a0 hb (by omega)
        replace a1 := keptC a1 hb (by omega)
        replace a2 := keptC a2 hb (by omega)
        replace a3 := keptC a3 hb (by omega)
        replace b0 := keptC b0 hb (by omega)
        replace b1 := keptC b1 hb (by omega)
        replace b2 := keptC b2 hb (by omega)
        replace b3 := keptC b3 hb (by omega)
        replace c0 := keptC c0 hb (by omega)
        replace c1 := keptC c1 hb (by omega)
        replace c2 := keptC c2 hb (by omega)
        replace c3 := keptC c3 hb (by omega)
        replace hl := Nat.lt_of_lt_of_le hl hb.size
        replace HG := Lib.hid (HG.out.on hb)
        replace HB := Lib.hid (fb2 HB.out hb (Nat.le_refl _))
        clear hb
        by_cases hp : 0 < P
        · skip
          go_wp2_with fail
          refine (HAW.out _ HG.out).mono ?_
          rintro e w18 ⟨rfl, hb⟩
          replace a0 := keptC a0 hb (by omega)
          replace a1 := keptC a1 hb (by omega)
          replace a2 := keptC a2 hb (by omega)
          replace a3 := keptC a3 hb (by omega)
          replace b0 := keptC b0 hb (by omega)
          replace b1 := keptC b1 hb (by omega)
          replace b2 := keptC b2 hb (by omega)
          replace b3 := keptC b3 hb (by omega)
          replace c0 := keptC c0 hb (by omega)
          replace c1 := keptC c1 hb (by omega)
          replace c2 := keptC c2 hb (by omega)
          replace c3 := keptC c3 hb (by omega)
          replace hl := Nat.lt_of_lt_of_le hl hb.size
          replace HG := Lib.hid (HG.out.on hb)
          replace HB := Lib.hid (fb2 HB.out hb (Nat.le_refl _))
          clear hb
          go_wp2
          go_ret
          exact ⟨rfl, HB.out⟩
        go_wp2_with fail
        refine (HAC.out _ HG.out).mono ?_
        rintro e w19 ⟨rfl, hb⟩
        replace a0 := keptC a0 hb (by omega)
        replace a1 := keptC a1 hb (by omega)
        replace a2 := keptC a2 hb (by omega)
        replace a3 := keptC a3 hb (by omega)
        replace b0 := keptC b0 hb (by omega)
        replace b1 := keptC b1 hb (by omega)
        replace b2 := keptC b2 hb (by omega)
        replace b3 := keptC b3 hb (by omega)
        replace c0 := keptC c0 hb (by omega)
        replace c1 := keptC c1 hb (by omega)
        replace c2 := keptC c2 hb (by omega)
        replace c3 := keptC c3 hb (by omega)
        replace hl := Nat.lt_of_lt_of_le hl hb.size
        replace HG := Lib.hid (HG.out.on hb)
        replace HB := Lib.hid (fb2 HB.out hb (Nat.le_refl _))
        clear hb
        have hq2 : Q ≤ 0 := htr (by omega) (by omega)
        go_wp2_with fail
        refine (HAW.out _ HG.out).mono ?_
        rintro e w20 ⟨rfl, hb⟩
        replace a0 := keptC a0 hb (by omega)
        replace a1 := keptC a1 hb (by omega)
        replace a2 := keptC a2 hb (by omega)
        replace a3 := keptC a3 hb (by omega)
        replace b0 := keptC b0 hb (by omega)
        replace b1 := keptC b1 hb (by omega)
        replace b2 := keptC b2 hb (by omega)
        replace b3 := keptC b3 hb (by omega)
        replace c0 := keptC c0 hb (by omega)
        replace c1 := keptC c1 hb (by omega)
        replace c2 := keptC c2 hb (by omega)
        replace c3 := keptC c3 hb (by omega)
        replace hl := Nat.lt_of_lt_of_le hl hb.size
        replace HG := Lib.hid (HG.out.on hb)
        replace HB := Lib.hid (fb2 HB.out hb (Nat.le_refl _))
        clear hb
        go_wp2
        go_ret
        exact ⟨rfl, HB.out⟩

end Go.Proofs.YtkfemnjblbnclaaGreatDoor
