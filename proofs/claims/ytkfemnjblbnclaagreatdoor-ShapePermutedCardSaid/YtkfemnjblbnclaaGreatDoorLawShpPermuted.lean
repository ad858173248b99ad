/- A table's rows, turned, are in the same order by any keys: the walk of the statement's function (written by gen/mklawperm12.py). -/
import Derived.Test.YtkfemnjblbnclaaGreatDoorGRows
import Derived.Test.YtkfemnjblbnclaaGreatDoorGCount
import Derived.Test.YtkfemnjblbnclaaGreatDoorShpBefore
import Derived.Test.YtkfemnjblbnclaaGreatDoorShpRefRight
import Derived.Test.YtkfemnjblbnclaaGreatDoorShpAwake
namespace Go.Proofs.YtkfemnjblbnclaaGreatDoor
open Go.RowKit Go.Maps Go.Sort

/- what the second loop keeps -/
structure PairR (w w0 : World) (P : Nat) (vs rs : Value) (wr : World) : Prop where
  arg : Blk wr P 31 #[vs, rs]
  below : Below w0.heap.size w0 wr
  old : Below w.heap.size w wr
theorem PairR.on {w w0 W W' : World} {P : Nat} {vs rs : Value} (h : PairR w w0 P vs rs W) (hb : Below W.heap.size W W') : PairR w w0 P vs rs W' := ⟨blk_on h.arg hb (blk_lt h.arg), fb2 h.below hb (Nat.le_refl _), fb2 h.old hb (Nat.le_refl _)⟩

set_option maxRecDepth 100000 in
set_option maxHeartbeats 8000000 in
theorem shapePermuted_calls (V : List (List UInt8)) (R : List RowL) (K : List KeyL) (nn : Int) (hx : okV V) (hr : okR R) (hko : ∀ x ∈ K, okS x.n) (tv : Value) (ka : Option Addr) (mk kc : Nat) (w : World) (hg : Nm.Good w) (ht : TabA w tv V R) (hk : KeyA w ka mk kc K) :
    Calls Tryz.prog 9 #[tv, .slice ka mk kc, .int .i64 nn] w fun e w' => e = .returned (.bool true) ∧ Below w.heap.size w w' := by
  obtain ⟨i0, hi, hz0, hz1, hz2⟩ := info_parts info_row
  obtain ⟨va, n, vc, ra, m, rc, rfl, hV, hR⟩ := ht
  obtain ⟨A, hA⟩ : ∃ A, w.heap.size = A := ⟨_, rfl⟩
  obtain ⟨W0, hW0⟩ : ∃ W0, w.alloc (.cells #[.slice va n vc, .slice ra m rc] 31) = W0 := ⟨_, rfl⟩
  have HB0 := Lib.hid (show Below w.heap.size w W0 by rw [← hW0]; exact box_below _ _)
  have hA0 : Blk W0 A 31 #[.slice va n vc, .slice ra m rc] := by rw [← hW0, ← hA]; exact blk_new _ _ _
  have HV := Lib.hid hV
  have HR := Lib.hid hR
  have HK := Lib.hid hk
  have HG := Lib.hid hg
  have HOV := Lib.hid hx
  have HOR := Lib.hid hr
  have HOK := Lib.hid hko
  have HVL := Lib.hid hV.len
  have HRL := Lib.hid hR.len
  have hTB : ∀ W, Below w.heap.size w W → TabA W (.agg #[.slice va n vc, .slice ra m rc]) V R := fun W hb => ⟨va, n, vc, ra, m, rc, rfl, hV.on hb, hR.on hb⟩
  have HTB := Lib.hid hTB
  have HLI := Lib.hid (fun W (hb : Below w.heap.size w W) => light_calls V R _ W (hTB W hb))
  have HRI := Lib.hid (fun W (hb : Below w.heap.size w W) => tabRight_calls V R hx hr va ra n vc m rc W (hV.on hb) (hR.on hb))
  have HAW := Lib.hid (fun W hW => awake_calls W hW)
  have HAE := Lib.hid hA
  have HW0 := Lib.hid hW0
  clear hV hR hg hx hr hk hko hA hW0 hTB
  have q0 : W0.cell? ⟨A, 0, none⟩ = some (.slice va n vc) := (blk_cell hA0 0).trans rfl
  have q1 : W0.cell? ⟨A, 1, none⟩ = some (.slice ra m rc) := (blk_cell hA0 1).trans rfl
  have hl := blk_lt hA0
  have HA0 := Lib.hid hA0
  clear hA0
  cases hli : lightB V R with
  | false =>
    rw [hli] at HLI
    go_enter Tryz.func9, Tryz.ntmps9
    go_wp2_with fail
    rw [HW0.out, HAE.out]
    refine (HLI.out _ HB0.out).mono ?_
    rintro e w1 ⟨rfl, hb1⟩
    have HB1 := Lib.hid (fb2 HB0.out hb1 (Nat.le_refl _))
    clear hb1
    go_wp2_with fail
    refine (HAW.out _ (HG.out.on HB1.out)).mono ?_
    rintro e w2 ⟨rfl, hb2⟩
    have HB2 := Lib.hid (fb2 HB1.out hb2 (Nat.le_refl _))
    clear hb2
    go_wp2
    go_ret
    exact ⟨rfl, HB2.out⟩
  | true =>
    rw [hli] at HLI
    have hm40 : m ≤ 40 := by
      unfold lightB at hli
      simp only [Bool.and_eq_true, decide_eq_true_eq] at hli
      have := HRL.out
      omega
    clear hli
    cases hri : rightT V R with
    | false =>
      rw [hri] at HRI
      clear hri
      go_enter Tryz.func9, Tryz.ntmps9
      go_wp2_with fail
      rw [HW0.out, HAE.out]
      refine (HLI.out _ HB0.out).mono ?_
      rintro e w1 ⟨rfl, hb1⟩
      have HB1 := Lib.hid (fb2 HB0.out hb1 (Nat.le_refl _))
      replace q0 := keptC q0 hb1 hl
      replace q1 := keptC q1 hb1 hl
      clear hb1
      go_wp2_with fail
      refine (HRI.out _ HB1.out).mono ?_
      rintro e w2 ⟨rfl, hb2⟩
      have HB2 := Lib.hid (fb2 HB1.out hb2 (Nat.le_refl _))
      clear hb2
      go_wp2_with fail
      refine (HAW.out _ (HG.out.on HB2.out)).mono ?_
      rintro e w3 ⟨rfl, hb3⟩
      have HB3 := Lib.hid (fb2 HB2.out hb3 (Nat.le_refl _))
      clear hb3
      go_wp2
      go_ret
      exact ⟨rfl, HB3.out⟩
    | true =>
      rw [hri] at HRI
      have HRT := Lib.hid hri
      clear hri
      go_enter Tryz.func9, Tryz.ntmps9
      go_wp2_with fail
      rw [HW0.out, HAE.out]
      refine (HLI.out _ HB0.out).mono ?_
      rintro e w1 ⟨rfl, hb1⟩
      have HB1 := Lib.hid (fb2 HB0.out hb1 (Nat.le_refl _))
      have HA1 := Lib.hid (blk_on HA0.out hb1 hl)
      replace q0 := keptC q0 hb1 hl
      replace q1 := keptC q1 hb1 hl
      replace hl := Nat.lt_of_lt_of_le hl hb1.size
      clear hb1
      go_wp2_with fail
      refine (HRI.out _ HB1.out).mono ?_
      rintro e w2 ⟨rfl, hb2⟩
      have HB2 := Lib.hid (fb2 HB1.out hb2 (Nat.le_refl _))
      have HA2 := Lib.hid (blk_on HA1.out hb2 hl)
      replace q0 := keptC q0 hb2 hl
      replace q1 := keptC q1 hb2 hl
      replace hl := Nat.lt_of_lt_of_le hl hb2.size
      clear hb2
      go_wp2
      obtain ⟨X, hX⟩ : ∃ X, w2.heap.size = X := ⟨_, rfl⟩
      obtain ⟨w0, hw0⟩ : ∃ w0, w2.alloc (.cells #[.slice va n vc, .slice none 0 0] 31) = w0 := ⟨_, rfl⟩
      have HBW0 := Lib.hid (show Below w.heap.size w w0 by rw [← hw0]; exact fb2 HB2.out (box_below _ _) (Nat.le_refl _))
      have HAW0 := Lib.hid (show Blk w0 A 31 #[.slice va n vc, .slice ra m rc] by rw [← hw0]; exact blk_alloc HA2.out _)
      have HAX := Lib.hid (show A < X by omega)
      have HLE := Lib.hid (show w.heap.size ≤ X by rw [← hX]; exact HB2.out.size)
      obtain ⟨d, hd⟩ : ∃ d, (IntKind.u64.wrap nn).toNat % m = d := ⟨_, rfl⟩
      have HS0 := Lib.hid (show RowsR X w0 (.slice va n vc) (.slice none 0 0) ((turnR R d).take 0) w0 from RowsR.start (by rw [← hw0, ← hX]; exact blk_new _ _ _))
      have HDE := Lib.hid hd
      rw [hw0, hX]
      clear hw0 hX hd q0 q1 hl
      go_loopg [8] m (fun g i wr => ∃ (i' : Nat) (v : Value), i = .int .i64 i' ∧ i' + g = m ∧ Hid (RowsR X w0 (.slice va n vc) v ((turnR R d).take i') wr))
      case atStart => exact ⟨0, _, rfl, by omega, HS0⟩
      case round =>
        obtain ⟨W1, rfl⟩ : ∃ W1, W1 = wr := ⟨_, rfl⟩
        obtain ⟨i, v, rfl, hig, HRD⟩ := hrel
        have HBW := Lib.hid (HBW0.out.trans (HRD.out.below.mono HLE.out))
        have q1 : W1.cell? ⟨A, 1, none⟩ = some (.slice ra m rc) := (blk_cell (blk_on HAW0.out HRD.out.below HAX.out) 1).trans rfl
        have k0 : (0 : Int) ≤ (i : Int) := by omega
        by_cases him : i < m
        · obtain ⟨g1, rfl⟩ : ∃ g1, gk = g1 + 1 := ⟨gk - 1, by omega⟩
          have hdm : d < m := by rw [← HDE.out]; exact Nat.mod_lt _ (by omega)
          obtain ⟨j, hj⟩ : ∃ j, (i + d) % m = j := ⟨_, rfl⟩
          have hjm : j < m := by rw [← hj]; exact Nat.mod_lt _ (by omega)
          have hjL : j < R.length := by rw [HRL.out]; exact hjm
          obtain ⟨g, o, rfl, hgw, hcells⟩ := HR.out.cells (by omega)
          obtain ⟨a', c', hcell, htrm⟩ := hcells j hjL
          have HTK := Lib.hid (show (turnR R d).take i ++ [R[j]] = (turnR R d).take (i + 1) by
            have := turn_more (R := R) (d := d) (i := i) (by rw [HRL.out]; exact hdm) (by rw [HRL.out]; exact him)
            have e : (i + d) % R.length = j := by rw [HRL.out]; exact hj
            simp only [e] at this
            exact this)
          have HTM := Lib.hid ((htrm.k).on (stay_below HBW.out))
          generalize R[j] = y at hcell HTM HTK
          clear htrm
          generalize hyn : y.length = yn at hcell HTM
          have HYN := Lib.hid hyn
          have HSA := Lib.hid (show W1.cell? ⟨A, 1, none⟩ = some (.slice (some ⟨g, o, none⟩) m rc) ∧ W1.cell? ⟨g, o + j, none⟩ = some (.slice a' yn c') from ⟨q1, keptC hcell HBW.out hgw⟩)
          have HSL := Lib.hid (show A < W1.heap.size ∧ g < W1.heap.size from ⟨by have h1 := HAX.out; have h2 := HRD.out.size; omega, Nat.lt_of_lt_of_le hgw HBW.out.size⟩)
          have HGX := Lib.hid (show g < X from Nat.lt_of_lt_of_le hgw HLE.out)
          have HQ1 := Lib.hid (show W1.cell? ⟨X, 1, none⟩ = some v from (blk_cell HRD.out.all 1).trans rfl)
          have HXL := Lib.hid (blk_lt HRD.out.all)
          have HSX := Lib.hid HRD.out.size
          have HL1 := Lib.hid (show ((turnR R d).take i).length = i by rw [List.length_take, turn_len, HRL.out]; omega)
          obtain ⟨cs, hown, hrc⟩ := HRD.out.own
          rw [HL1.out] at hown
          have HOW := Lib.hid hown
          have HRC := Lib.hid hrc
          have HOB : Hid (∀ e, Value.ownBlock v = some e → X + 1 ≤ e) := Lib.hid (fun e he => (hown.lt e he).1)
          have hu0 : 0 ≤ IntKind.u64.wrap nn := by simp [IntKind.wrap, IntKind.bits, IntKind.signed]; omega
          have HD1 := Lib.hid (show (IntKind.u64.wrap nn).tmod (m : Int) = (d : Int) by
            rw [Int.tmod_eq_emod_of_nonneg hu0, ← HDE.out, Int.natCast_emod, Int.toNat_of_nonneg hu0])
          have HM1 := Lib.hid (show IntKind.u64.wrap (m : Int) = (m : Int) by simp [IntKind.wrap, IntKind.bits, IntKind.signed]; omega)
          have HD2 := Lib.hid (show IntKind.i64.wrap (d : Int) = (d : Int) by simp [IntKind.wrap, IntKind.bits, IntKind.signed]; omega)
          have HD3 := Lib.hid (show IntKind.i64.wrap ((i : Int) + (d : Int)) = (i : Int) + (d : Int) by simp [IntKind.wrap, IntKind.bits, IntKind.signed]; omega)
          have HD4 := Lib.hid (show ((i : Int) + (d : Int)).tmod (m : Int) = (j : Int) by
            rw [Int.tmod_eq_emod_of_nonneg (by omega), ← hj, Int.natCast_emod, Int.natCast_add])
          have k1 : (i : Int) < (m : Int) := by omega
          have k2 : (0 : Int) ≤ (j : Int) := by omega
          have k3 : (j : Int) < (m : Int) := by omega
          have k4 : ¬ m = 0 := by omega
          clear hcells hcell hyn hjL hown hrc hu0 hj hgw
          go_wp2_with fail
          refine wp_region_held_drew (S := (fun W => W.cell? ⟨A, 1, none⟩ = some (.slice (some ⟨g, o, none⟩) m rc) ∧ W.cell? ⟨g, o + j, none⟩ = some (.slice a' yn c'))) (by kernel_rfl) ?_ (fun hHeld => ?_)
          · (try dsimp only); exact HSA.out
          obtain ⟨Wd, hWd⟩ : ∃ Wd, W1.drew = Wd := ⟨_, rfl⟩
          rw [hWd] at hHeld ⊢
          have HBD := Lib.hid (show Below W1.heap.size W1 Wd by rw [← hWd]; exact (Below.refl _ _).drew)
          have HDZ := Lib.hid (show Wd.heap.size = W1.heap.size by rw [← hWd]; rfl)
          obtain ⟨W2, hW2⟩ : ∃ W2, Wd.alloc (.cells #[.slice a' yn c'] 51) = W2 := ⟨_, rfl⟩
          have HW2 := Lib.hid hW2
          have HBD2 := Lib.hid (show Below Wd.heap.size Wd W2 by rw [← hW2]; exact box_below _ _)
          have HB2 := Lib.hid (fb2 HBD.out HBD2.out (Nat.le_refl _))
          have HN2 : Hid (W2.cell? ⟨Wd.heap.size, 0, none⟩ = some (.slice a' yn c')) := Lib.hid (by rw [← hW2]; exact blk_cell (blk_new Wd 51 #[.slice a' yn c']) 0)
          have HS2 := Lib.hid (show W2.cell? ⟨A, 1, none⟩ = some (.slice (some ⟨g, o, none⟩) m rc) ∧ W2.cell? ⟨g, o + j, none⟩ = some (.slice a' yn c') from ⟨keptC HSA.out.1 HB2.out HSL.out.1, keptC HSA.out.2 HB2.out HSL.out.2⟩)
          have HQD := Lib.hid (keptC HQ1.out HBD.out HXL.out)
          have HQ2 := Lib.hid (keptC HQ1.out HB2.out HXL.out)
          have HZ2 := Lib.hid (show X + 1 ≤ W2.heap.size by have h1 := HSX.out; have h2 := HB2.out.size; omega)
          have HO2 := Lib.hid (HOW.out.kept (row := none) ⟨HB2.out.os, HB2.out.tape, HB2.out.output, HB2.out.size, fun b hb _ => HB2.out.block b hb⟩ (by
            cases hq : v.ownBlock with
            | none => exact .inl rfl
            | some x => exact .inr (by simp)))
          clear hWd hW2
          refine wpAnyH_take (i := 0) (oi := ⟨some 33, _, _, _, _, _⟩) (v := ?_) rfl (by kernel_rfl) (by kernel_rfl) (by kernel_rfl) (fun _ _ _ h => h) (Or.inl ⟨by kernel_rfl, ?_⟩) (by assumption) ?_
          rotate_left
          · (intro ww hSw; (try dsimp only at hSw); go_simp); (try with_reducible rfl)
          (try simp only [Act.put, List.setIfInBounds_toArray, List.set_cons_zero, List.set_cons_succ])
          refine wpAnyH_take (i := 2) (oi := ⟨some 35, _, _, _, _, _⟩) (v := ?_) rfl (by kernel_rfl) (by kernel_rfl) (by kernel_rfl) (fun _ _ _ h => h) (Or.inl ⟨by kernel_rfl, ?_⟩) (by assumption) ?_
          rotate_left
          · (intro ww hSw; (try dsimp only at hSw); go_simp); (try with_reducible rfl)
          (try simp only [Act.put, List.setIfInBounds_toArray, List.set_cons_zero, List.set_cons_succ])
          refine wpAnyH_take (i := 3) (oi := ⟨some 36, _, _, _, _, _⟩) (v := ?_) rfl (by kernel_rfl) (by kernel_rfl) (by kernel_rfl) (fun _ _ _ h => h) (Or.inl ⟨by kernel_rfl, ?_⟩) (by assumption) ?_
          rotate_left
          · (intro ww hSw; (try dsimp only at hSw); obtain ⟨d1, _⟩ := hSw; go_simp); (try with_reducible rfl)
          (try simp only [Act.put, List.setIfInBounds_toArray, List.set_cons_zero, List.set_cons_succ])
          refine wpAnyH_take (i := 4) (oi := ⟨some 37, _, _, _, _, _⟩) (v := ?_) rfl (by kernel_rfl) (by kernel_rfl) (by kernel_rfl) (fun _ _ _ h => h) (Or.inl ⟨by kernel_rfl, ?_⟩) (by assumption) ?_
          rotate_left
          · (intro ww hSw; (try dsimp only at hSw); go_simp); (try with_reducible rfl)
          (try simp only [Act.put, List.setIfInBounds_toArray, List.set_cons_zero, List.set_cons_succ])
          refine wpAnyH_take (i := 5) (oi := ⟨some 38, _, _, _, _, _⟩) (v := ?_) rfl (by kernel_rfl) (by kernel_rfl) (by kernel_rfl) (fun _ _ _ h => h) (Or.inl ⟨by kernel_rfl, ?_⟩) (by assumption) ?_
          rotate_left
          · (intro ww hSw; (try dsimp only at hSw); go_simp); (try with_reducible rfl)
          (try simp only [Act.put, List.setIfInBounds_toArray, List.set_cons_zero, List.set_cons_succ])
          refine wpAnyH_take (i := 6) (oi := ⟨some 39, _, _, _, _, _⟩) (v := ?_) rfl (by kernel_rfl) (by kernel_rfl) (by kernel_rfl) (fun _ _ _ h => h) (Or.inl ⟨by kernel_rfl, ?_⟩) (by assumption) ?_
          rotate_left
          · (intro ww hSw; (try dsimp only at hSw); go_simp); (try with_reducible rfl)
          (try simp only [Act.put, List.setIfInBounds_toArray, List.set_cons_zero, List.set_cons_succ])
          refine wpAnyH_take (i := 7) (oi := ⟨some 40, _, _, _, _, _⟩) (v := ?_) rfl (by kernel_rfl) (by kernel_rfl) (by kernel_rfl) (fun _ _ _ h => h) (Or.inl ⟨by kernel_rfl, ?_⟩) (by assumption) ?_
          rotate_left
          · (intro ww hSw; (try dsimp only at hSw); go_simp); (try with_reducible rfl)
          (try simp only [Act.put, List.setIfInBounds_toArray, List.set_cons_zero, List.set_cons_succ])
          refine wpAnyH_take (i := 8) (oi := ⟨some 41, _, _, _, _, _⟩) (v := ?_) rfl (by kernel_rfl) (by kernel_rfl) (by kernel_rfl) (fun _ _ _ h => h) (Or.inl ⟨by kernel_rfl, ?_⟩) (by assumption) ?_
          rotate_left
          · (intro ww hSw; (try dsimp only at hSw); obtain ⟨d1, _⟩ := hSw; go_simp); (try with_reducible rfl)
          (try simp only [Act.put, List.setIfInBounds_toArray, List.set_cons_zero, List.set_cons_succ])
          refine wpAnyH_take (i := 9) (oi := ⟨some 42, _, _, _, _, _⟩) (v := ?_) rfl (by kernel_rfl) (by kernel_rfl) (by kernel_rfl) (fun _ _ _ h => h) (Or.inl ⟨by kernel_rfl, ?_⟩) (by assumption) ?_
          rotate_left
          · (intro ww hSw; (try dsimp only at hSw); go_simp); (try with_reducible rfl)
          (try simp only [Act.put, List.setIfInBounds_toArray, List.set_cons_zero, List.set_cons_succ])
          refine wpAnyH_take (i := 10) (oi := ⟨some 43, _, _, _, _, _⟩) (v := ?_) rfl (by kernel_rfl) (by kernel_rfl) (by kernel_rfl) (fun _ _ _ h => h) (Or.inl ⟨by kernel_rfl, ?_⟩) (by assumption) ?_
          rotate_left
          · (intro ww hSw; (try dsimp only at hSw); have e1 := HM1.out; go_simp); (try with_reducible rfl)
          (try simp only [Act.put, List.setIfInBounds_toArray, List.set_cons_zero, List.set_cons_succ])
          refine wpAnyH_take (i := 11) (oi := ⟨some 44, _, _, _, _, _⟩) (v := ?_) rfl (by kernel_rfl) (by kernel_rfl) (by kernel_rfl) (fun _ _ _ h => h) (Or.inl ⟨by kernel_rfl, ?_⟩) (by assumption) ?_
          rotate_left
          · (intro ww hSw; (try dsimp only at hSw); have e1 := HD1.out; go_simp); (try with_reducible rfl)
          (try simp only [Act.put, List.setIfInBounds_toArray, List.set_cons_zero, List.set_cons_succ])
          refine wpAnyH_take (i := 12) (oi := ⟨some 45, _, _, _, _, _⟩) (v := ?_) rfl (by kernel_rfl) (by kernel_rfl) (by kernel_rfl) (fun _ _ _ h => h) (Or.inl ⟨by kernel_rfl, ?_⟩) (by assumption) ?_
          rotate_left
          · (intro ww hSw; (try dsimp only at hSw); have e1 := HD2.out; go_simp); (try with_reducible rfl)
          (try simp only [Act.put, List.setIfInBounds_toArray, List.set_cons_zero, List.set_cons_succ])
          refine wpAnyH_take (i := 13) (oi := ⟨some 46, _, _, _, _, _⟩) (v := ?_) rfl (by kernel_rfl) (by kernel_rfl) (by kernel_rfl) (fun _ _ _ h => h) (Or.inl ⟨by kernel_rfl, ?_⟩) (by assumption) ?_
          rotate_left
          · (intro ww hSw; (try dsimp only at hSw); have e1 := HD3.out; go_simp); (try with_reducible rfl)
          (try simp only [Act.put, List.setIfInBounds_toArray, List.set_cons_zero, List.set_cons_succ])
          refine wpAnyH_take (i := 14) (oi := ⟨some 47, _, _, _, _, _⟩) (v := ?_) rfl (by kernel_rfl) (by kernel_rfl) (by kernel_rfl) (fun _ _ _ h => h) (Or.inl ⟨by kernel_rfl, ?_⟩) (by assumption) ?_
          rotate_left
          · (intro ww hSw; (try dsimp only at hSw); go_simp); (try with_reducible rfl)
          (try simp only [Act.put, List.setIfInBounds_toArray, List.set_cons_zero, List.set_cons_succ])
          refine wpAnyH_take (i := 15) (oi := ⟨some 48, _, _, _, _, _⟩) (v := ?_) rfl (by kernel_rfl) (by kernel_rfl) (by kernel_rfl) (fun _ _ _ h => h) (Or.inl ⟨by kernel_rfl, ?_⟩) (by assumption) ?_
          rotate_left
          · (intro ww hSw; (try dsimp only at hSw); obtain ⟨d1, _⟩ := hSw; go_simp); (try with_reducible rfl)
          (try simp only [Act.put, List.setIfInBounds_toArray, List.set_cons_zero, List.set_cons_succ])
          refine wpAnyH_take (i := 16) (oi := ⟨some 49, _, _, _, _, _⟩) (v := ?_) rfl (by kernel_rfl) (by kernel_rfl) (by kernel_rfl) (fun _ _ _ h => h) (Or.inl ⟨by kernel_rfl, ?_⟩) (by assumption) ?_
          rotate_left
          · (intro ww hSw; (try dsimp only at hSw); go_simp); (try with_reducible rfl)
          (try simp only [Act.put, List.setIfInBounds_toArray, List.set_cons_zero, List.set_cons_succ])
          refine wpAnyH_take (i := 17) (oi := ⟨some 50, _, _, _, _, _⟩) (v := ?_) rfl (by kernel_rfl) (by kernel_rfl) (by kernel_rfl) (fun _ _ _ h => h) (Or.inl ⟨by kernel_rfl, ?_⟩) (by assumption) ?_
          rotate_left
          · (intro ww hSw; (try dsimp only at hSw); have e1 := HD4.out; go_simp); (try with_reducible rfl)
          (try simp only [Act.put, List.setIfInBounds_toArray, List.set_cons_zero, List.set_cons_succ])
          refine wpAnyH_take (i := 18) (oi := ⟨some 51, _, _, _, _, _⟩) (v := ?_) rfl (by kernel_rfl) (by kernel_rfl) (by kernel_rfl) (fun _ _ _ h => h) (Or.inl ⟨by kernel_rfl, ?_⟩) (by assumption) ?_
          rotate_left
          · (intro ww hSw; (try dsimp only at hSw); go_simp); (try with_reducible rfl)
          (try simp only [Act.put, List.setIfInBounds_toArray, List.set_cons_zero, List.set_cons_succ])
          refine wpAnyH_take (i := 19) (oi := ⟨some 52, _, _, _, _, _⟩) (v := ?_) rfl (by kernel_rfl) (by kernel_rfl) (by kernel_rfl) (fun _ _ _ h => h) (Or.inl ⟨by kernel_rfl, ?_⟩) (by assumption) ?_
          rotate_left
          · (intro ww hSw; (try dsimp only at hSw); obtain ⟨_, d1⟩ := hSw; go_simp); (try with_reducible rfl)
          (try simp only [Act.put, List.setIfInBounds_toArray, List.set_cons_zero, List.set_cons_succ])
          refine wpAnyH_ready (rs := [1, 20]) (by kernel_rfl) (by simp) ?_
          refine AllReadyH.cons rfl (fun K hK => ?_) (AllReadyH.cons rfl (fun K hK => ?_) AllReadyH.nil)
          · have hqv := HQD.out
            go_simp
            clear hqv
            refine hK.out _ _ ?_ (fun hHeld => ?_)
            · exact hHeld
            clear hK K
            (try simp only [Act.put, List.setIfInBounds_toArray, List.set_cons_zero, List.set_cons_succ])
            refine wpAnyH_ready (rs := [20]) (by kernel_rfl) (by simp) ?_
            refine AllReadyH.cons rfl (fun K hK => ?_) AllReadyH.nil
            go_simp
            rw [HW2.out]
            refine hK.out _ _ ?_ (fun hHeld => ?_)
            · exact HS2.out
            clear hK K
            (try simp only [Act.put, List.setIfInBounds_toArray, List.set_cons_zero, List.set_cons_succ])
            refine wpAnyH_ready (rs := [21]) (by kernel_rfl) (by simp) ?_
            refine AllReadyH.cons rfl (fun K hK => ?_) AllReadyH.nil
            refine wp_append_own (.tmp 34) (.tmp 53) 29 rfl (X + 1) 51 i0 (.slice none 0 0) 1 24 Tryz.underlying29 hi hz0 hz1 hz2 rfl (by decide) v _ _ rfl HO2.out ⟨Wd.heap.size, 0, none⟩ 1 1 [.slice a' yn c'] rfl rfl (fun j u hj => ?_) (fun u hu => ?_) (by unfold maxLen; omega) (by omega) HZ2.out ?_
            · cases j with
              | zero => injection hj with hj; subst hj; exact HN2.out
              | succ j => simp at hj
            · simp only [List.mem_singleton] at hu; subst hu; rfl
            intro v5 w5 ho5 hg5 _
            have HO5 := Lib.hid ho5
            have HG5 := Lib.hid hg5
            have HB5 := Lib.hid (show Below (X + 1) W1 w5 from (HB2.out.mono HSX.out).grown hg5 (Nat.le_trans HSX.out HB2.out.size) (fun b hb => HOB.out _ hb))
            have HS5 := Lib.hid (show w5.cell? ⟨A, 1, none⟩ = some (.slice (some ⟨g, o, none⟩) m rc) ∧ w5.cell? ⟨g, o + j, none⟩ = some (.slice a' yn c') from ⟨keptC HSA.out.1 HB5.out (by have := HAX.out; omega), keptC HSA.out.2 HB5.out (by have := HGX.out; omega)⟩)
            have HX5 := Lib.hid (blk_on HRD.out.all HB5.out (Nat.lt_succ_self X))
            clear ho5 hg5
            refine hK.out _ _ ?_ (fun hHeld => ?_)
            · exact HS5.out
            clear hK K
            (try simp only [Act.put, List.setIfInBounds_toArray])
            refine wpAnyH_take (i := 22) (oi := ⟨some 55, _, _, _, _, _⟩) (v := ?_) rfl (by kernel_rfl) (by kernel_rfl) (by kernel_rfl) (fun _ _ _ h => h) (Or.inl ⟨by kernel_rfl, ?_⟩) (by assumption) ?_
            rotate_left
            · (intro ww hSw; (try dsimp only at hSw); go_simp); (try with_reducible rfl)
            (try simp only [Act.put])
            refine wpAnyH_ready (rs := [23]) (by kernel_rfl) (by simp) ?_
            refine AllReadyH.cons rfl (fun K hK => ?_) AllReadyH.nil
            refine wp_one_abs 29 (.tmp 55) (.tmp 54) rfl X 1 v5 rfl rfl (own_cells HO5.out).1 (own_cells HO5.out).2 31 [.slice va n vc, v] HX5.out (by kernel_rfl) (by simp) ?_
            intro w6 hX6 hg6
            have HB6 := Lib.hid (show Below X W1 w6 from (HB5.out.mono (Nat.le_succ X)).grown hg6 (by have h1 := HSX.out; have h2 := HB5.out.size; omega) (fun b hb => by injection hb with hb; omega))
            refine hK.out _ _ ?_ (fun hHeld => ?_)
            · exact ⟨keptC HSA.out.1 HB6.out (by have := HAX.out; omega), keptC HSA.out.2 HB6.out HGX.out⟩
            clear hK K
            (try simp only [Act.put])
            refine wpAnyH_done (by kernel_rfl) ?_ _
            have HR6 := Lib.hid (show RowsR X w0 (.slice va n vc) v5 ((turnR R d).take (i + 1)) w6 from rows_next HRD.out HRC.out HL1.out (HTM.out.mono (fun b _ hb => Nat.lt_of_lt_of_le hb HLE.out)) HYN.out HTK.out HO5.out hX6 hg6 HB6.out)
            clear hX6 hg6
            go_wp2
            go_roundg g1
            case measure => omega
            case rel => exact ⟨i + 1, v5, by go_num, by omega, HR6⟩
          · go_simp
            rw [HW2.out]
            refine hK.out _ _ ?_ (fun hHeld => ?_)
            · exact HS2.out
            clear hK K
            (try simp only [Act.put, List.setIfInBounds_toArray, List.set_cons_zero, List.set_cons_succ])
            have hqv := HQ2.out
            refine wpAnyH_ready (rs := [1]) (by kernel_rfl) (by simp) ?_
            refine AllReadyH.cons rfl (fun K hK => ?_) AllReadyH.nil
            go_simp
            clear hqv
            refine hK.out _ _ ?_ (fun hHeld => ?_)
            · exact hHeld
            clear hK K
            (try simp only [Act.put, List.setIfInBounds_toArray, List.set_cons_zero, List.set_cons_succ])
            refine wpAnyH_ready (rs := [21]) (by kernel_rfl) (by simp) ?_
            refine AllReadyH.cons rfl (fun K hK => ?_) AllReadyH.nil
            refine wp_append_own (.tmp 34) (.tmp 53) 29 rfl (X + 1) 51 i0 (.slice none 0 0) 1 24 Tryz.underlying29 hi hz0 hz1 hz2 rfl (by decide) v _ _ rfl HO2.out ⟨Wd.heap.size, 0, none⟩ 1 1 [.slice a' yn c'] rfl rfl (fun j u hj => ?_) (fun u hu => ?_) (by unfold maxLen; omega) (by omega) HZ2.out ?_
            · cases j with
              | zero => injection hj with hj; subst hj; exact HN2.out
              | succ j => simp at hj
            · simp only [List.mem_singleton] at hu; subst hu; rfl
            intro v5 w5 ho5 hg5 _
            have HO5 := Lib.hid ho5
            have HG5 := Lib.hid hg5
            have HB5 := Lib.hid (show Below (X + 1) W1 w5 from (HB2.out.mono HSX.out).grown hg5 (Nat.le_trans HSX.out HB2.out.size) (fun b hb => HOB.out _ hb))
            have HS5 := Lib.hid (show w5.cell? ⟨A, 1, none⟩ = some (.slice (some ⟨g, o, none⟩) m rc) ∧ w5.cell? ⟨g, o + j, none⟩ = some (.slice a' yn c') from ⟨keptC HSA.out.1 HB5.out (by have := HAX.out; omega), keptC HSA.out.2 HB5.out (by have := HGX.out; omega)⟩)
            have HX5 := Lib.hid (blk_on HRD.out.all HB5.out (Nat.lt_succ_self X))
            clear ho5 hg5
            refine hK.out _ _ ?_ (fun hHeld => ?_)
            · exact HS5.out
            clear hK K
            (try simp only [Act.put, List.setIfInBounds_toArray])
            refine wpAnyH_take (i := 22) (oi := ⟨some 55, _, _, _, _, _⟩) (v := ?_) rfl (by kernel_rfl) (by kernel_rfl) (by kernel_rfl) (fun _ _ _ h => h) (Or.inl ⟨by kernel_rfl, ?_⟩) (by assumption) ?_
            rotate_left
            · (intro ww hSw; (try dsimp only at hSw); go_simp); (try with_reducible rfl)
            (try simp only [Act.put])
            refine wpAnyH_ready (rs := [23]) (by kernel_rfl) (by simp) ?_
            refine AllReadyH.cons rfl (fun K hK => ?_) AllReadyH.nil
            refine wp_one_abs 29 (.tmp 55) (.tmp 54) rfl X 1 v5 rfl rfl (own_cells HO5.out).1 (own_cells HO5.out).2 31 [.slice va n vc, v] HX5.out (by kernel_rfl) (by simp) ?_
            intro w6 hX6 hg6
            have HB6 := Lib.hid (show Below X W1 w6 from (HB5.out.mono (Nat.le_succ X)).grown hg6 (by have h1 := HSX.out; have h2 := HB5.out.size; omega) (fun b hb => by injection hb with hb; omega))
            refine hK.out _ _ ?_ (fun hHeld => ?_)
            · exact ⟨keptC HSA.out.1 HB6.out (by have := HAX.out; omega), keptC HSA.out.2 HB6.out HGX.out⟩
            clear hK K
            (try simp only [Act.put])
            refine wpAnyH_done (by kernel_rfl) ?_ _
            have HR6 := Lib.hid (show RowsR X w0 (.slice va n vc) v5 ((turnR R d).take (i + 1)) w6 from rows_next HRD.out HRC.out HL1.out (HTM.out.mono (fun b _ hb => Nat.lt_of_lt_of_le hb HLE.out)) HYN.out HTK.out HO5.out hX6 hg6 HB6.out)
            clear hX6 hg6
            go_wp2
            go_roundg g1
            case measure => omega
            case rel => exact ⟨i + 1, v5, by go_num, by omega, HR6⟩
        · have hE : (turnR R d).take i = turnR R d := List.take_of_length_le (by rw [turn_len, HRL.out]; omega)
          have k1 : ¬ (i : Int) < (m : Int) := by omega
          have hfl : (turnR R d).length = m := by rw [turn_len, HRL.out]
          rw [hE] at HRD
          obtain ⟨a3, c3, hv, hrow3⟩ := HRD.out.rows
          rw [hfl] at hv hrow3
          subst hv
          have HU1 := Lib.hid hrow3
          have HBX1 := Lib.hid HRD.out.all
          have HFL := Lib.hid hfl
          have ho1 := order_calls V R K HOV.out HOR.out HOK.out _ ka mk kc W1 (HG.out.on HBW.out) (HTB.out W1 HBW.out) (HK.out.on HBW.out)
          rw [HRT.out] at ho1
          have hpm := order_perm (aheadP V K) R
          have hot := order_turn (V := V) (K := K) (R := R) HRT.out d
          have hrs := order_risen (ahead_anti V K) (ahead_trans V K) R
          generalize orderP (aheadP V K) R = S at ho1 hpm hot hrs
          have HOP := Lib.hid hrs
          have HO1 := Lib.hid ho1
          have HPM := Lib.hid hpm
          have HOT := Lib.hid hot
          have HSL := Lib.hid (show S.length = m by rw [hpm.length_eq, HRL.out])
          have HRS := Lib.hid (right_nodup (right_perm hpm HRT.out)).2.2.2.2
          have HOS := Lib.hid (show okR S from fun r hr t ht => HOR.out r (hpm.mem_iff.1 hr) t ht)
          have HOU := Lib.hid (show okR (turnR R d) from fun r hr t ht => HOR.out r ((turn_perm R d).mem_iff.1 hr) t ht)
          have HRU := Lib.hid (right_perm (turn_perm R d) HRT.out)
          have hlx : X < W1.heap.size := blk_lt HBX1.out
          have HAW1 := Lib.hid (blk_on HAW0.out HRD.out.below HAX.out)
          have q0 : W1.cell? ⟨A, 0, none⟩ = some (.slice va n vc) := (blk_cell HAW1.out 0).trans rfl
          clear ho1 hpm hot hrs hE hfl hrow3 HRD HS0 HOR
          go_wp2_with fail
          refine HO1.out.mono ?_
          rintro e w3 ⟨uv, rfl, ⟨va1, n1, vc1, ra1, m1, rc1, rfl, hV1, hR1⟩, hb3⟩
          change TxtK _ _ _ _ _ V at hV1
          change RowK _ _ _ _ _ S at hR1
          obtain rfl : n1 = n := hV1.len.symm.trans HVL.out
          obtain rfl : m1 = m := hR1.len.symm.trans HSL.out
          have HV3 := Lib.hid hV1.a
          have HR3 := Lib.hid hR1.a
          have HBW3 := Lib.hid (fb2 HBW.out hb3 (Nat.le_refl _))
          have HBX3 := Lib.hid (blk_on HBX1.out hb3 hlx)
          have HB3 := Lib.hid hb3
          have q2 : w3.cell? ⟨X, 0, none⟩ = some (.slice va n1 vc) := (blk_cell HBX3.out 0).trans rfl
          have q3 : w3.cell? ⟨X, 1, none⟩ = some (.slice a3 m1 c3) := (blk_cell HBX3.out 1).trans rfl
          have hx3 : X < w3.heap.size := blk_lt HBX3.out
          have hx4 : ¬ X = w3.heap.size := by omega
          obtain ⟨P, hP⟩ : ∃ P, w3.heap.size = P := ⟨_, rfl⟩
          obtain ⟨w4, hw4⟩ : ∃ w4, w3.alloc (.cells #[.slice va1 n1 vc1, .slice ra1 m1 rc1] 31) = w4 := ⟨_, rfl⟩
          have HB4 := Lib.hid (show Below w3.heap.size w3 w4 by rw [← hw4]; exact box_below _ _)
          have HP4 := Lib.hid (show Blk w4 P 31 #[.slice va1 n1 vc1, .slice ra1 m1 rc1] by rw [← hw4, ← hP]; exact blk_new _ _ _)
          have HBW4 := Lib.hid (fb2 HBW3.out HB4.out (Nat.le_refl _))
          have ho2 := order_calls V (turnR R d) K HOV.out HOU.out HOK.out (.agg #[.slice va n1 vc, .slice a3 m1 c3]) ka mk kc w4 (HG.out.on HBW4.out) ⟨va, n1, vc, a3, m1, c3, rfl, HV.out.on HBW4.out, (HU1.out.on HB3.out).on HB4.out⟩ (HK.out.on HBW4.out)
          rw [HRU.out, HOT.out] at ho2
          have HO2 := Lib.hid ho2
          have HPE := Lib.hid hP
          have HW4 := Lib.hid hw4
          have HAX4 := Lib.hid (blk_on (blk_on HAW1.out HB3.out (blk_lt HAW1.out)) HB4.out (by have h1 := blk_lt HAW1.out; have h2 := HB3.out.size; omega))
          clear hV1 hR1 hb3 hP hw4 ho2 q0 q1
          go_wp2_with fail
          rw [HW4.out, HPE.out]
          refine HO2.out.mono ?_
          rintro e w5 ⟨uv, rfl, ⟨va2, n2, vc2, ra2, m2, rc2, rfl, hV2, hR2⟩, hb5⟩
          change TxtK _ _ _ _ _ V at hV2
          change RowK _ _ _ _ _ S at hR2
          obtain rfl : n2 = n1 := hV2.len.symm.trans HVL.out
          obtain rfl : m2 = m1 := hR2.len.symm.trans HSL.out
          have HP5 := Lib.hid (blk_on HP4.out hb5 (blk_lt HP4.out))
          have HA5 := Lib.hid (blk_on HAX4.out hb5 (blk_lt HAX4.out))
          have HBW5 := Lib.hid (fb2 HBW4.out hb5 (Nat.le_refl _))
          have HV5 := Lib.hid hV2.a
          have HR5 := Lib.hid hR2.a
          have HV35 := Lib.hid ((HV3.out.on HB4.out).on hb5)
          have HR35 := Lib.hid ((HR3.out.on HB4.out).on hb5)
          have r2 : w5.cell? ⟨P, 0, none⟩ = some (.slice va1 n2 vc1) := (blk_cell HP5.out 0).trans rfl
          have r3 : w5.cell? ⟨P, 1, none⟩ = some (.slice ra1 m2 rc1) := (blk_cell HP5.out 1).trans rfl
          have hp5 : P < w5.heap.size := blk_lt HP5.out
          have hp6 : ¬ P = w5.heap.size := by omega
          obtain ⟨w6, hw6⟩ : ∃ w6, w5.alloc (.cells #[.slice va2 n2 vc2, .slice ra2 m2 rc2] 31) = w6 := ⟨_, rfl⟩
          have HB6 := Lib.hid (show Below w5.heap.size w5 w6 by rw [← hw6]; exact box_below _ _)
          have HW6 := Lib.hid hw6
          have hsm := tabSame_calls V V S S (.agg #[.slice va1 n2 vc1, .slice ra1 m2 rc1]) (.agg #[.slice va2 n2 vc2, .slice ra2 m2 rc2]) w6 ⟨va1, n2, vc1, ra1, m2, rc1, rfl, HV35.out.on HB6.out, HR35.out.on HB6.out⟩ ⟨va2, n2, vc2, ra2, m2, rc2, rfl, HV5.out.on HB6.out, HR5.out.on HB6.out⟩
          rw [decide_eq_true (show V = V ∧ S = S from ⟨rfl, rfl⟩)] at hsm
          have HSM := Lib.hid hsm
          clear hV2 hR2 hb5 hw6 hsm q2 q3 hx3 hx4
          go_wp2_with fail
          rw [HW6.out]
          refine HSM.out.mono ?_
          rintro e w7 ⟨rfl, hb7⟩
          have HP7 := Lib.hid (blk_on (blk_on HP5.out HB6.out (blk_lt HP5.out)) hb7 (by have := HB6.out.size; omega))
          have HA7 := Lib.hid (blk_on (blk_on HA5.out HB6.out (blk_lt HA5.out)) hb7 (by have h1 := HB6.out.size; have h2 := blk_lt HA5.out; omega))
          have HBW7 := Lib.hid (fb2 (fb2 HBW5.out HB6.out (Nat.le_refl _)) hb7 (Nat.le_refl _))
          have HV7 := Lib.hid ((HV35.out.on HB6.out).on hb7)
          have HR7 := Lib.hid ((HR35.out.on HB6.out).on hb7)
          have s2 : w7.cell? ⟨P, 0, none⟩ = some (.slice va1 n2 vc1) := (blk_cell HP7.out 0).trans rfl
          have s3 : w7.cell? ⟨P, 1, none⟩ = some (.slice ra1 m2 rc1) := (blk_cell HP7.out 1).trans rfl
          have s4 : w7.cell? ⟨A, 0, none⟩ = some (.slice va n2 vc) := (blk_cell HA7.out 0).trans rfl
          have s5 : w7.cell? ⟨A, 1, none⟩ = some (.slice ra m2 rc) := (blk_cell HA7.out 1).trans rfl
          have hsr := sameRows_calls V S V R (.agg #[.slice va1 n2 vc1, .slice ra1 m2 rc1]) (.agg #[.slice va n2 vc, .slice ra m2 rc]) w7 ⟨va1, n2, vc1, ra1, m2, rc1, rfl, HV7.out, HR7.out⟩ (HTB.out w7 HBW7.out)
          rw [same_perm HPM.out] at hsr
          have HSR := Lib.hid hsr
          clear hb7 hsr r2 r3 hp5 hp6
          go_wp2_with fail
          refine HSR.out.mono ?_
          rintro e w8 ⟨rfl, hb8⟩
          have HPR0 := Lib.hid (show PairR w w8 P (.slice va1 n2 vc1) (.slice ra1 m2 rc1) w8 from ⟨blk_on HP7.out hb8 (blk_lt HP7.out), Below.refl _ _, fb2 HBW7.out hb8 (Nat.le_refl _)⟩)
          have HV8 := Lib.hid (HV7.out.on hb8)
          have HR8 := Lib.hid (HR7.out.on hb8)
          clear hb8 s2 s3 s4 s5
          go_wp2
          go_loopg [13] m2 (fun g i wr => ∃ i' : Nat, i = .int .i64 i' ∧ 1 ≤ i' ∧ m2 ≤ i' + g ∧ i' ≤ m2 + 1 ∧ Hid (PairR w w8 P (.slice va1 n2 vc1) (.slice ra1 m2 rc1) wr))
          case atStart => exact ⟨1, rfl, by omega, by omega, by omega, HPR0⟩
          case round =>
            obtain ⟨W2, rfl⟩ : ∃ W2, W2 = wr := ⟨_, rfl⟩
            obtain ⟨i2, rfl, hi1, hig2, him2, HPR⟩ := hrel
            have s1 : W2.cell? ⟨P, 1, none⟩ = some (.slice ra1 m2 rc1) := (blk_cell HPR.out.arg 1).trans rfl
            by_cases hi2 : i2 < m2
            · obtain ⟨g3, rfl⟩ : ∃ g3, gk = g3 + 1 := ⟨gk - 1, by omega⟩
              obtain ⟨j, hj⟩ : ∃ j, i2 = j + 1 := ⟨i2 - 1, by omega⟩
              have hj1 : j + 1 < S.length := by rw [HSL.out]; omega
              have hz : ¬ aheadP V K S[j + 1] S[j] < 0 := by
                have h1 := risen_pair HOP.out hj1
                have h2 := ahead_anti V K S[j] S[j + 1]
                omega
              obtain ⟨g4, o4, rfl, hgw4, hcells4⟩ := HR8.out.cells (by omega)
              obtain ⟨a1, c1, hc1, ht1⟩ := hcells4 (j + 1) hj1
              obtain ⟨a2, c2, hc2, ht2⟩ := hcells4 j (by omega)
              have hl1 := (HRS.out _ (List.getElem_mem hj1)).1.trans HVL.out
              have hl2 := (HRS.out _ (List.getElem_mem (show j < S.length by omega))).1.trans HVL.out
              rw [hl1] at hc1 ht1
              rw [hl2] at hc2 ht2
              have hk1 := HOS.out _ (List.getElem_mem hj1)
              have hk2 := HOS.out _ (List.getElem_mem (show j < S.length by omega))
              have hbp := HPR.out.below
              have cB := fun dd os => Calls.regrown_of (rBefore_calls V K S[j + 1] S[j] hk1 hk2 va1 n2 vc1 ka mk kc a1 c1 a2 c2 (grow (redrawn W2 dd) os) ((HV8.out.on hbp).on (below_regrown W2 dd os)) ((HK.out.on HPR.out.old).on (below_regrown W2 dd os)) ((ht1.on hbp).on (below_regrown W2 dd os)) ((ht2.on hbp).on (below_regrown W2 dd os)))
              have e0 := regrown_cell (show W2.cell? ⟨P, 0, none⟩ = some (.slice va1 n2 vc1) from (blk_cell HPR.out.arg 0).trans rfl)
              have e1 := regrown_cell s1
              have e2 := regrown_cell (keptC hc1 hbp hgw4)
              have e3 := regrown_cell (keptC hc2 hbp hgw4)
              rw [← hj] at e2
              generalize aheadP V K S[j + 1] S[j] = z at hz cB
              have e5 : IntKind.i64.wrap ((i2 : Int) - 1) = (j : Int) := by simp [IntKind.wrap, IntKind.bits, IntKind.signed]; omega
              have k1 : (i2 : Int) < (m2 : Int) := by omega
              have k2 : (0 : Int) ≤ (i2 : Int) := by omega
              have k3 : (j : Int) < (m2 : Int) := by omega
              have k4 : (0 : Int) ≤ (j : Int) := by omega
              clear hcells4 hc1 hc2 ht1 ht2 hl1 hl2 hk1 hk2 hbp hj hj1 hgw4
              go_wp2_with fail
              refine wp_region_quiet_below (by kernel_rfl) (by kernel_rfl) ?_
              repeat (quiet_step (exact cB _ _))
              refine wpQuiet_nil ?_
              intro W4 hw'
              obtain ⟨⟨dq, osq⟩, hw''⟩ := hw'
              have HPR4 := Lib.hid (HPR.out.on (show Below W2.heap.size W2 W4 by rw [hw'']; exact below_regrown W2 dq osq))
              clear hw'' e0 e1 e2 e3 e5 cB s1
              go_wp2
              go_roundg g3
              case measure => omega
              case rel => exact ⟨i2 + 1, by go_num, by omega, by omega, by omega, HPR4⟩
            · have k1 : ¬ (i2 : Int) < (m2 : Int) := by omega
              go_wp2_with fail
              refine (HAW.out _ (HG.out.on HPR.out.old)).mono ?_
              rintro e w9 ⟨rfl, hb9⟩
              have HB9 := Lib.hid (fb2 HPR.out.old hb9 (Nat.le_refl _))
              clear hb9
              go_wp2
              go_ret
              exact ⟨rfl, HB9.out⟩

end Go.Proofs.YtkfemnjblbnclaaGreatDoor
