/- The counts of all groups together: the walk of the statement's function (written by gen/mklaw13.py). -/
import Derived.Test.YtdnfaoanaehjhaaGreatDoorH27
import Derived.Test.YtdnfaoanaehjhaaGreatDoorGrpName
import Derived.Test.YtdnfaoanaehjhaaGreatDoorH18
import Derived.Test.YtdnfaoanaehjhaaGreatDoorH29
import Derived.Test.YtdnfaoanaehjhaaGreatDoorH13
import Derived.Test.YtdnfaoanaehjhaaGreatDoorH33
namespace Go.Proofs.YtdnfaoanaehjhaaGreatDoor
open Go.RowKit Go.Maps Go.Sort

theorem count_ok {n : Nat} (h : n ≤ 999999999) : (countT n).ok := by
  have h1 : (bs (Lib.decDigits n)).size ≤ maxLen := by
    have := Nm.dec_size9 n h
    have e : (bs (Lib.decDigits n)).size ≤ 9 := this
    unfold maxLen; omega
  exact ⟨h1, bs_ok tyIL (by decide), bs_ok [] (by decide)⟩
theorem counts_line (V B : List (List UInt8)) (nm : List UInt8) (G : List RowL) : lineP V B [⟨1, [], nm⟩] G = keyP V B (G.headD []) ++ [countT G.length] := by
  unfold lineP
  rw [List.map_cons, List.map_nil, comes_count rfl rfl]
theorem sum_take_le (l : List Nat) (k : Nat) : (l.take k).sum ≤ l.sum := by
  have h : (l.take k ++ l.drop k).sum = (l.take k).sum + (l.drop k).sum := List.sum_append
  rw [List.take_append_drop] at h
  omega
def sumG (GS : List (List RowL)) (k : Nat) : Nat := ((GS.map List.length).take k).sum
theorem sumG_next {GS : List (List RowL)} {k : Nat} (h : k < GS.length) : sumG GS (k + 1) = sumG GS k + GS[k].length := by
  have hk : k < (GS.map List.length).length := by rw [List.length_map]; exact h
  unfold sumG
  rw [List.take_succ_eq_append_getElem hk, List.sum_append, List.sum_cons, List.sum_nil, List.getElem_map, Nat.add_zero]
theorem sumG_le (GS : List (List RowL)) (k : Nat) : sumG GS k ≤ (GS.map List.length).sum := sum_take_le _ _
theorem sumG_end {GS : List (List RowL)} {k : Nat} (h : GS.length ≤ k) : sumG GS k = (GS.map List.length).sum := by
  unfold sumG
  rw [List.take_of_length_le (by rw [List.length_map]; exact h)]

set_option maxRecDepth 100000 in
set_option maxHeartbeats 16000000 in
theorem groupCounts_calls (V : List (List UInt8)) (R : List RowL) (B : List (List UInt8)) (hx : okV V) (hr : okRT R) (hB : okV B) (tv : Value) (ba : Option Addr) (bn bc : Nat) (w : World) (hg : Nm.Good w) (ht : TabA w tv V R) (hb : TxtA w ba bn bc B) :
    Calls Tryz.prog 6 #[tv, .slice ba bn bc] w fun e w' => e = .returned (.bool true) ∧ Below w.heap.size w w' := by
  obtain ⟨va, n, vc, ra, m, rc, rfl, hV, hR⟩ := ht
  obtain ⟨A, hA⟩ : ∃ A, w.heap.size = A := ⟨_, rfl⟩
  obtain ⟨W0, hW0⟩ : ∃ W0, w.alloc (.cells #[.slice va n vc, .slice ra m rc] 25) = W0 := ⟨_, rfl⟩
  have HB0 := Lib.hid (show Below w.heap.size w W0 by rw [← hW0]; exact box_below _ _)
  have HA0 := Lib.hid (show Blk W0 A 25 #[.slice va n vc, .slice ra m rc] by rw [← hW0, ← hA]; exact blk_new _ _ _)
  have HG := Lib.hid hg
  have HBL := Lib.hid hb.len
  have hbc := hb.cap
  have hbm := hb.most
  unfold maxLen at hbm
  have hTB : ∀ W, Below w.heap.size w W → TabA W (.agg #[.slice va n vc, .slice ra m rc]) V R := fun W hb => ⟨va, n, vc, ra, m, rc, rfl, hV.on hb, hR.on hb⟩
  have HLI := Lib.hid (fun W (hW : Below w.heap.size w W) => light_calls V R _ W (hTB W hW))
  have HRI := Lib.hid (fun W (hW : Below w.heap.size w W) => tabRight_calls V R hx hr.r va ra n vc m rc W (hV.on hW) (hR.on hW))
  have HNM : Hid (lightB V R = true → ∀ W, Below w.heap.size w W → Calls Tryz.prog 20 #[.agg #[.slice va n vc, .slice ra m rc]] W fun e w' => e = .returned (.string (bs (nameP V))) ∧ Below W.heap.size W w') := Lib.hid fun h W hW => name_calls V R hx (by unfold lightB at h; simp only [Bool.and_eq_true, decide_eq_true_eq] at h; exact h.2) _ W (hTB W hW)
  have HAW := Lib.hid (fun W hW => awake_calls W hW)
  have hLo : ∀ g ∈ [(⟨1, [], nameP V⟩ : AggL)], g.ok := fun g h => by rw [List.mem_singleton] at h; subst h; exact ⟨bs_ok [] (by decide), name_ok V⟩
  have HRK : Hid (∀ W g, Below w.heap.size w W → AgA W (some ⟨g, 0, none⟩) 1 1 [⟨1, [], nameP V⟩] → Calls Tryz.prog 12 #[.agg #[.slice va n vc, .slice ra m rc], .slice ba bn bc, .slice (some ⟨g, 0, none⟩) 1 1] W fun e w' => e = .returned (.int .i64 (checkG V R B [⟨1, [], nameP V⟩])) ∧ Below W.heap.size W w') := Lib.hid fun W g hW hL => rGCheck_calls V R B [⟨1, [], nameP V⟩] hx hr.r hB hLo _ ba bn bc (some ⟨g, 0, none⟩) 1 1 W (hTB W hW) (hb.on hW) hL (by omega)
  have HGN : Hid (checkG V R B [⟨1, [], nameP V⟩] ≠ 0 → ∀ W g, Below w.heap.size w W → AgA W (some ⟨g, 0, none⟩) 1 1 [⟨1, [], nameP V⟩] → Calls Tryz.prog 14 #[.agg #[.slice va n vc, .slice ra m rc], .slice ba bn bc, .slice (some ⟨g, 0, none⟩) 1 1] W fun e w' => e = .returned (.tuple #[noTab, .int .i64 (checkG V R B [⟨1, [], nameP V⟩])]) ∧ Below W.heap.size W w') := Lib.hid fun hz W g hW hL => group_no V R B [⟨1, [], nameP V⟩] hx hr hB hLo hz _ ba bn bc (some ⟨g, 0, none⟩) 1 1 W (hTB W hW) (hb.on hW) hL (by omega)
  have HGY : Hid (checkG V R B [⟨1, [], nameP V⟩] = 0 → ∀ W g, Below w.heap.size w W → AgA W (some ⟨g, 0, none⟩) 1 1 [⟨1, [], nameP V⟩] → Calls Tryz.prog 14 #[.agg #[.slice va n vc, .slice ra m rc], .slice ba bn bc, .slice (some ⟨g, 0, none⟩) 1 1] W fun e w' => ∃ uv, e = .returned (.tuple #[uv, .int .i64 0]) ∧ TabK (fun i => W.heap.size ≤ i) w' uv (B ++ aggNames [⟨1, [], nameP V⟩]) (groupP V B [⟨1, [], nameP V⟩] R) ∧ Below W.heap.size W w') := Lib.hid fun hz W g hW hL => group_yes V R B [⟨1, [], nameP V⟩] hx hr hB hLo hz _ ba bn bc (some ⟨g, 0, none⟩) 1 1 W (hg.on hW) (hTB W hW) (hb.on hW) hL
  have HL40 : Hid (lightB V R = true → m ≤ 40) := Lib.hid fun h => by unfold lightB at h; simp only [Bool.and_eq_true, decide_eq_true_eq] at h; rw [← hR.len]; exact h.1
  have HRL := Lib.hid hR.len
  have HAE := Lib.hid hA
  have HW0 := Lib.hid hW0
  have HLN := Lib.hid (fun i (h : i < (groupP V B [⟨1, [], nameP V⟩] R).length) (h2 : i < (groupsP V B R).length) => show (groupP V B [⟨1, [], nameP V⟩] R)[i] = keyP V B (((groupsP V B R)[i]).headD []) ++ [countT ((groupsP V B R)[i]).length] by rw [← counts_line V B (nameP V)]; exact List.getElem_map _)
  have HGL := Lib.hid (show (groupP V B [⟨1, [], nameP V⟩] R).length = (groupsP V B R).length by unfold groupP; rw [List.length_map])
  clear hTB hV hR hg hA hW0 hx hr hB hb hLo
  have hmz := empty_is (nameP V)
  generalize checkG V R B [⟨1, [], nameP V⟩] = z at HRK HGN HGY
  generalize groupP V B [⟨1, [], nameP V⟩] R = GL at HGY HLN HGL
  generalize nameP V = nm at HNM HRK HGN HGY hmz
  have q0 : W0.cell? ⟨A, 0, none⟩ = some (.slice va n vc) := (blk_cell HA0.out 0).trans rfl
  have q1 : W0.cell? ⟨A, 1, none⟩ = some (.slice ra m rc) := (blk_cell HA0.out 1).trans rfl
  cases hli : lightB V R with
  | false =>
    rw [hli] at HLI
    clear hli HNM HRK HGN HGY hmz
    go_enter Tryz.func6, Tryz.ntmps6
    go_wp2_with fail
    rw [HW0.out, HAE.out]
    refine (HLI.out _ HB0.out).mono ?_
    rintro e w1 ⟨rfl, hb1⟩
    have HB1 := Lib.hid (fb2 HB0.out hb1 (Nat.le_refl _))
    clear hb1
    go_wp2_with fail
    refine (HAW.out _ (HG.out.on HB1.out)).mono ?_
    rintro e w2 ⟨rfl, hb2⟩
    have HBz := Lib.hid (fb2 HB1.out hb2 (Nat.le_refl _))
    clear hb2
    go_wp2
    go_ret
    exact ⟨rfl, HBz.out⟩
  | true =>
    have hm40 := HL40.out hli
    have HN := Lib.hid (HNM.out hli)
    rw [hli] at HLI
    clear hli HNM HL40
    cases hri : rightT V R with
    | false =>
      rw [hri] at HRI
      clear hri HRK HGN HGY hmz
      go_enter Tryz.func6, Tryz.ntmps6
      go_wp2_with fail
      rw [HW0.out, HAE.out]
      refine (HLI.out _ HB0.out).mono ?_
      rintro e w1 ⟨rfl, hb1⟩
      have HB1 := Lib.hid (fb2 HB0.out hb1 (Nat.le_refl _))
      have HA1 := Lib.hid (blk_on HA0.out hb1 (blk_lt HA0.out))
      clear hb1 q0 q1
      have q0 : w1.cell? ⟨A, 0, none⟩ = some (.slice va n vc) := (blk_cell HA1.out 0).trans rfl
      have q1 : w1.cell? ⟨A, 1, none⟩ = some (.slice ra m rc) := (blk_cell HA1.out 1).trans rfl
      go_wp2_with fail
      refine (HRI.out _ HB1.out).mono ?_
      rintro e w2 ⟨rfl, hb2⟩
      have HB2 := Lib.hid (fb2 HB1.out hb2 (Nat.le_refl _))
      have HA2 := Lib.hid (blk_on HA1.out hb2 (blk_lt HA1.out))
      clear hb2 q0 q1
      go_wp2_with fail
      refine (HAW.out _ (HG.out.on HB2.out)).mono ?_
      rintro e w3 ⟨rfl, hb3⟩
      have HBz := Lib.hid (fb2 HB2.out hb3 (Nat.le_refl _))
      clear hb3
      go_wp2
      go_ret
      exact ⟨rfl, HBz.out⟩
    | true =>
      rw [hri] at HRI
      clear hri
      by_cases hne : nm = []
      · rw [decide_eq_true hne] at hmz
        clear hne HRK HGN HGY
        go_enter Tryz.func6, Tryz.ntmps6
        go_wp2_with fail
        rw [HW0.out, HAE.out]
        refine (HLI.out _ HB0.out).mono ?_
        rintro e w1 ⟨rfl, hb1⟩
        have HB1 := Lib.hid (fb2 HB0.out hb1 (Nat.le_refl _))
        have HA1 := Lib.hid (blk_on HA0.out hb1 (blk_lt HA0.out))
        clear hb1 q0 q1
        have q0 : w1.cell? ⟨A, 0, none⟩ = some (.slice va n vc) := (blk_cell HA1.out 0).trans rfl
        have q1 : w1.cell? ⟨A, 1, none⟩ = some (.slice ra m rc) := (blk_cell HA1.out 1).trans rfl
        go_wp2_with fail
        refine (HRI.out _ HB1.out).mono ?_
        rintro e w2 ⟨rfl, hb2⟩
        have HB2 := Lib.hid (fb2 HB1.out hb2 (Nat.le_refl _))
        have HA2 := Lib.hid (blk_on HA1.out hb2 (blk_lt HA1.out))
        clear hb2 q0 q1
        have q0 : w2.cell? ⟨A, 0, none⟩ = some (.slice va n vc) := (blk_cell HA2.out 0).trans rfl
        have q1 : w2.cell? ⟨A, 1, none⟩ = some (.slice ra m rc) := (blk_cell HA2.out 1).trans rfl
        go_wp2_with fail
        refine (HN.out _ HB2.out).mono ?_
        rintro e w3 ⟨rfl, hb3⟩
        have HB3 := Lib.hid (fb2 HB2.out hb3 (Nat.le_refl _))
        have HA3 := Lib.hid (blk_on HA2.out hb3 (blk_lt HA2.out))
        clear hb3 q0 q1
        go_wp2_with fail
        refine (HAW.out _ (HG.out.on HB3.out)).mono ?_
        rintro e w4 ⟨rfl, hb4⟩
        have HBz := Lib.hid (fb2 HB3.out hb4 (Nat.le_refl _))
        clear hb4
        go_wp2
        go_ret
        exact ⟨rfl, HBz.out⟩
      · rw [decide_eq_false hne] at hmz
        clear hne
        by_cases hz : z = 0
        · have HGX := Lib.hid (HGY.out hz)
          have gz : (z != 0) = false := by rw [hz]; rfl
          have HSUM := Lib.hid (groups_sum V B R)
          have HSUB := Lib.hid (fun G (h : G ∈ groupsP V B R) => show (0 < bn → 0 < G.length) ∧ G.length ≤ m from ⟨fun hb => (groups_sub h).2.1 (fun c => by have := HBL.out; rw [c] at this; simp at this; omega), by rw [← HRL.out]; exact (groups_sub h).2.2⟩)
          generalize groupsP V B R = GS at HLN HGL HSUM HSUB
          clear hz HGY HGN
          go_enter Tryz.func6, Tryz.ntmps6
          go_wp2_with fail
          rw [HW0.out, HAE.out]
          refine (HLI.out _ HB0.out).mono ?_
          rintro e w1 ⟨rfl, hb1⟩
          have HB1 := Lib.hid (fb2 HB0.out hb1 (Nat.le_refl _))
          have HA1 := Lib.hid (blk_on HA0.out hb1 (blk_lt HA0.out))
          clear hb1 q0 q1
          have q0 : w1.cell? ⟨A, 0, none⟩ = some (.slice va n vc) := (blk_cell HA1.out 0).trans rfl
          have q1 : w1.cell? ⟨A, 1, none⟩ = some (.slice ra m rc) := (blk_cell HA1.out 1).trans rfl
          go_wp2_with fail
          refine (HRI.out _ HB1.out).mono ?_
          rintro e w2 ⟨rfl, hb2⟩
          have HB2 := Lib.hid (fb2 HB1.out hb2 (Nat.le_refl _))
          have HA2 := Lib.hid (blk_on HA1.out hb2 (blk_lt HA1.out))
          clear hb2 q0 q1
          have q0 : w2.cell? ⟨A, 0, none⟩ = some (.slice va n vc) := (blk_cell HA2.out 0).trans rfl
          have q1 : w2.cell? ⟨A, 1, none⟩ = some (.slice ra m rc) := (blk_cell HA2.out 1).trans rfl
          go_wp2_with fail
          refine (HN.out _ HB2.out).mono ?_
          rintro e w3 ⟨rfl, hb3⟩
          have HB3 := Lib.hid (fb2 HB2.out hb3 (Nat.le_refl _))
          have HA3 := Lib.hid (blk_on HA2.out hb3 (blk_lt HA2.out))
          clear hb3 q0 q1
          have q0 : w3.cell? ⟨A, 0, none⟩ = some (.slice va n vc) := (blk_cell HA3.out 0).trans rfl
          have q1 : w3.cell? ⟨A, 1, none⟩ = some (.slice ra m rc) := (blk_cell HA3.out 1).trans rfl
          go_wp2_with fail
          refine (HN.out _ HB3.out).mono ?_
          rintro e w4 ⟨rfl, hb4⟩
          obtain ⟨L, hL⟩ : ∃ L, w4.heap.size = L := ⟨_, rfl⟩
          obtain ⟨W5, hW5⟩ : ∃ W5, w4.alloc (.cells #[.int .i64 1, .string ⟨#[]⟩, .string (bs nm)] 41) = W5 := ⟨_, rfl⟩
          have HB35 := Lib.hid (show Below w3.heap.size w3 W5 by rw [← hW5]; exact fb2 hb4 (box_below _ _) (Nat.le_refl _))
          have HB5 := Lib.hid (fb2 HB3.out HB35.out (Nat.le_refl _))
          have HA5 := Lib.hid (blk_on HA3.out HB35.out (blk_lt HA3.out))
          have HL5 := Lib.hid (aggs_one (a := ⟨1, [], nm⟩) (show Blk W5 L 41 #[.int .i64 1, .string (bs []), .string (bs nm)] by rw [← hW5, ← hL]; exact blk_new _ _ _))
          have p0 : w4.cell? ⟨A, 0, none⟩ = some (.slice va n vc) := (blk_cell (blk_on HA3.out hb4 (blk_lt HA3.out)) 0).trans rfl
          have p1 : w4.cell? ⟨A, 1, none⟩ = some (.slice ra m rc) := (blk_cell (blk_on HA3.out hb4 (blk_lt HA3.out)) 1).trans rfl
          have p2 : A < w4.heap.size := by have h1 := blk_lt HA3.out; have h2 := hb4.size; omega
          have p3 : ¬ A = w4.heap.size := by omega
          have HLE := Lib.hid hL
          have HW5 := Lib.hid hW5
          clear hb4 hL hW5 q0 q1
          go_wp2_with fail
          rw [HW5.out, HLE.out]
          refine (HGX.out W5 L HB5.out HL5.out).mono ?_
          rintro e w6 ⟨uv, rfl, ⟨va2, n2, vc2, ra2, gm, rc2, rfl, hT2, hR2⟩, hb6⟩
          clear p0 p1 p2 p3
          obtain ⟨E, hE⟩ : ∃ E, w6.heap.size = E := ⟨_, rfl⟩
          obtain ⟨W7, hW7⟩ : ∃ W7, w6.alloc (.cells #[.slice va2 n2 vc2, .slice ra2 gm rc2] 25) = W7 := ⟨_, rfl⟩
          have HB57 := Lib.hid (show Below W5.heap.size W5 W7 by rw [← hW7]; exact fb2 hb6 (box_below _ _) (Nat.le_refl _))
          have HB7 := Lib.hid (fb2 HB5.out HB57.out (Nat.le_refl _))
          have HA7 := Lib.hid (blk_on HA5.out HB57.out (blk_lt HA5.out))
          have HE7 := Lib.hid (show Blk W7 E 25 #[.slice va2 n2 vc2, .slice ra2 gm rc2] by rw [← hW7, ← hE]; exact blk_new _ _ _)
          have HR7 := Lib.hid (show RowA W7 ra2 gm rc2 GL from hR2.a.on (by rw [← hW7]; exact box_below _ _))
          have HL7 := Lib.hid (HL5.out.on HB57.out)
          have HGM := Lib.hid hR2.len
          have hgc := hR2.cap
          have hgmo := hR2.most
          unfold maxLen at hgmo
          have p0 : w6.cell? ⟨A, 0, none⟩ = some (.slice va n vc) := (blk_cell (blk_on HA5.out hb6 (blk_lt HA5.out)) 0).trans rfl
          have p1 : w6.cell? ⟨A, 1, none⟩ = some (.slice ra m rc) := (blk_cell (blk_on HA5.out hb6 (blk_lt HA5.out)) 1).trans rfl
          have p2 : A < w6.heap.size := by have h1 := blk_lt HA5.out; have h2 := hb6.size; omega
          have p3 : ¬ A = w6.heap.size := by omega
          have HW7 := Lib.hid hW7
          have HEE := Lib.hid hE
          clear hb6 hW7 hE hT2 hR2
          go_wp2_with fail
          rw [HW7.out, HEE.out]
          refine (HRK.out W7 L HB7.out HL7.out).mono ?_
          rintro e w8 ⟨rfl, hb8⟩
          have HB8 := Lib.hid (fb2 HB7.out hb8 (Nat.le_refl _))
          have HA8 := Lib.hid (blk_on HA7.out hb8 (blk_lt HA7.out))
          have HE8 := Lib.hid (blk_on HE7.out hb8 (blk_lt HE7.out))
          have HR8 := Lib.hid (HR7.out.on hb8)
          clear hb8 p0 p1 p2 p3 HA7 HE7 HR7 HL7 HB7 HB57 HW7
          have HSE := Lib.hid (show (GS.map List.length).sum = m from HSUM.out.trans HRL.out)
          have HGG := Lib.hid (show GS.length = gm from HGL.out.symm.trans HGM.out)
          go_wp2
          go_loopg [8, 9, 10, 11] gm (fun g tot i _ _ wr => ∃ k : Nat, i = .int .i64 k ∧ k + g = gm ∧ tot = .int .i64 (sumG GS k : Nat) ∧ Hid (Below w8.heap.size w8 wr))
          case atStart => exact ⟨0, rfl, by omega, rfl, Lib.hid (Below.refl _ _)⟩
          case round =>
            obtain ⟨W1, rfl⟩ : ∃ W1, W1 = wr := ⟨_, rfl⟩
            obtain ⟨k, rfl, hkg, rfl, HBW⟩ := hrel
            have k0 : (0 : Int) ≤ (k : Int) := by omega
            have HBT := Lib.hid (fb2 HB8.out HBW.out (Nat.le_refl _))
            have HA9 := Lib.hid (blk_on HA8.out HBW.out (blk_lt HA8.out))
            have HE9 := Lib.hid (blk_on HE8.out HBW.out (blk_lt HE8.out))
            have e1 : W1.cell? ⟨E, 1, none⟩ = some (.slice ra2 gm rc2) := (blk_cell HE9.out 1).trans rfl
            have hsl := sumG_le GS k
            rw [HSE.out] at hsl
            by_cases hk : k < gm
            · obtain ⟨gg, rfl⟩ : ∃ gg, gk = gg + 1 := ⟨gk - 1, by omega⟩
              have hkL : k < GL.length := by rw [HGM.out]; exact hk
              have hkS : k < GS.length := by rw [HGG.out]; exact hk
              obtain ⟨g, oo, ha, hgw, hcells⟩ := HR8.out.cells (by omega)
              subst ha
              obtain ⟨a', c', hcell, htrm⟩ := hcells k hkL
              have HY := Lib.hid (HLN.out k hkL hkS)
              have HSN := Lib.hid (sumG_next hkS)
              have hsub := HSUB.out _ (List.getElem_mem hkS)
              generalize GL[k] = y at hcell htrm HY
              generalize GS[k] = G at HY HSN hsub
              obtain ⟨gl, hgl⟩ : ∃ gl, G.length = gl := ⟨_, rfl⟩
              rw [hgl] at HY HSN hsub
              have hyl : y.length = bn + 1 := by rw [HY.out, List.length_append, key_len, HBL.out]; rfl
              have hby : bn < y.length := by rw [hyl]; omega
              have hyb : y[bn] = countT gl := by
                have h1 : (keyP V B (G.headD [])).length = bn := by rw [key_len, HBL.out]
                simp only [HY.out]
                rw [List.getElem_append_right (by rw [h1]; exact Nat.le_refl _)]
                simp
              obtain ⟨g2, o2, ha2, hg2, hc2⟩ := htrm.cells (by omega)
              subst ha2
              have htb := (hc2 bn hby).on HBW.out hg2
              rw [hyb] at htb
              rw [hyl] at hcell
              have hcp := htrm.cap
              have hmo := htrm.most
              rw [hyl] at hcp
              unfold maxLen at hmo
              have c0 := keptC hcell HBW.out hgw
              have hgl40 : gl ≤ 40 := Nat.le_trans hsub.2 hm40
              have hpos := hsub.1
              have HOF := Lib.hid (rOf_calls (countT gl) (count_ok (by omega)) W1)
              rw [of_count (by omega)] at HOF
              simp only [Nm.NumL.ret, Nm.NumL.val] at HOF
              generalize countT gl = t at htb HOF
              obtain ⟨tk, tx, ty, tz⟩ := t
              obtain ⟨d0, d1, d2, d3⟩ := htb
              simp only [TermL.v] at HOF
              dsimp only at d0 d1 d2 d3
              have k1 : (k : Int) < (gm : Int) := by omega
              have b0 : (0 : Int) ≤ (bn : Int) := by omega
              have b1 : (bn : Int) < ((bn + 1 : Nat) : Int) := by omega
              have b2 : (bn : Int) < (bn : Int) + 1 := by omega
              clear hcells hcell htrm hc2 hsub hyb hby HY hgl hyl
              go_wp2_with fail
              refine HOF.out.mono ?_
              rintro e w9 ⟨rfl, hb9⟩
              have HBN := Lib.hid (fb2 HBW.out (fb2 hb9 (box_below w9 (.cells #[.int .i64 gl, .int .i64 0, .bool false] 48)) (Nat.le_refl _)) (Nat.le_refl _))
              clear hb9 c0 d0 d1 d2 d3 e1
              by_cases hg1 : gl < 1
              · have hb0 : bn = 0 := by
                  by_cases c : bn = 0
                  · exact c
                  · exact absurd (hpos (by omega)) (by omega)
                have f1 : (gl : Int) < 1 := by omega
                have f2 : ¬ (0 : Int) < (bn : Int) := by omega
                clear hb0
                go_wp2
                go_roundg gg
                case measure => omega
                case rel => exact ⟨k + 1, by go_num, by omega, by rw [HSN.out]; go_num, HBN⟩
              · have f1 : ¬ (gl : Int) < 1 := by omega
                go_wp2
                go_roundg gg
                case measure => omega
                case rel => exact ⟨k + 1, by go_num, by omega, by rw [HSN.out]; go_num, HBN⟩
            · have k1 : ¬ (k : Int) < (gm : Int) := by omega
              have HEND := Lib.hid (show sumG GS k = m from (sumG_end (by rw [HGG.out]; omega)).trans HSE.out)
              rw [HEND.out]
              have q1 : W1.cell? ⟨A, 1, none⟩ = some (.slice ra m rc) := (blk_cell HA9.out 1).trans rfl
              have g1 : ((m : Int) == (m : Int)) = true := beq_self_eq_true _
              clear hsl
              go_wp2_with fail
              refine (HAW.out _ (HG.out.on HBT.out)).mono ?_
              rintro e w9 ⟨rfl, hb9⟩
              have HBz := Lib.hid (fb2 HBT.out hb9 (Nat.le_refl _))
              clear hb9
              go_wp2
              go_ret
              exact ⟨rfl, HBz.out⟩
        · have HGX := Lib.hid (HGN.out hz)
          have gz : (z != 0) = true := bne_iff_ne.2 hz
          clear hz HGY HGN
          go_enter Tryz.func6, Tryz.ntmps6
          go_wp2_with fail
          rw [HW0.out, HAE.out]
          refine (HLI.out _ HB0.out).mono ?_
          rintro e w1 ⟨rfl, hb1⟩
          have HB1 := Lib.hid (fb2 HB0.out hb1 (Nat.le_refl _))
          have HA1 := Lib.hid (blk_on HA0.out hb1 (blk_lt HA0.out))
          clear hb1 q0 q1
          have q0 : w1.cell? ⟨A, 0, none⟩ = some (.slice va n vc) := (blk_cell HA1.out 0).trans rfl
          have q1 : w1.cell? ⟨A, 1, none⟩ = some (.slice ra m rc) := (blk_cell HA1.out 1).trans rfl
          go_wp2_with fail
          refine (HRI.out _ HB1.out).mono ?_
          rintro e w2 ⟨rfl, hb2⟩
          have HB2 := Lib.hid (fb2 HB1.out hb2 (Nat.le_refl _))
          have HA2 := Lib.hid (blk_on HA1.out hb2 (blk_lt HA1.out))
          clear hb2 q0 q1
          have q0 : w2.cell? ⟨A, 0, none⟩ = some (.slice va n vc) := (blk_cell HA2.out 0).trans rfl
          have q1 : w2.cell? ⟨A, 1, none⟩ = some (.slice ra m rc) := (blk_cell HA2.out 1).trans rfl
          go_wp2_with fail
          refine (HN.out _ HB2.out).mono ?_
          rintro e w3 ⟨rfl, hb3⟩
          have HB3 := Lib.hid (fb2 HB2.out hb3 (Nat.le_refl _))
          have HA3 := Lib.hid (blk_on HA2.out hb3 (blk_lt HA2.out))
          clear hb3 q0 q1
          have q0 : w3.cell? ⟨A, 0, none⟩ = some (.slice va n vc) := (blk_cell HA3.out 0).trans rfl
          have q1 : w3.cell? ⟨A, 1, none⟩ = some (.slice ra m rc) := (blk_cell HA3.out 1).trans rfl
          go_wp2_with fail
          refine (HN.out _ HB3.out).mono ?_
          rintro e w4 ⟨rfl, hb4⟩
          obtain ⟨L, hL⟩ : ∃ L, w4.heap.size = L := ⟨_, rfl⟩
          obtain ⟨W5, hW5⟩ : ∃ W5, w4.alloc (.cells #[.int .i64 1, .string ⟨#[]⟩, .string (bs nm)] 41) = W5 := ⟨_, rfl⟩
          have HB35 := Lib.hid (show Below w3.heap.size w3 W5 by rw [← hW5]; exact fb2 hb4 (box_below _ _) (Nat.le_refl _))
          have HB5 := Lib.hid (fb2 HB3.out HB35.out (Nat.le_refl _))
          have HA5 := Lib.hid (blk_on HA3.out HB35.out (blk_lt HA3.out))
          have HL5 := Lib.hid (aggs_one (a := ⟨1, [], nm⟩) (show Blk W5 L 41 #[.int .i64 1, .string (bs []), .string (bs nm)] by rw [← hW5, ← hL]; exact blk_new _ _ _))
          have p0 : w4.cell? ⟨A, 0, none⟩ = some (.slice va n vc) := (blk_cell (blk_on HA3.out hb4 (blk_lt HA3.out)) 0).trans rfl
          have p1 : w4.cell? ⟨A, 1, none⟩ = some (.slice ra m rc) := (blk_cell (blk_on HA3.out hb4 (blk_lt HA3.out)) 1).trans rfl
          have p2 : A < w4.heap.size := by have h1 := blk_lt HA3.out; have h2 := hb4.size; omega
          have p3 : ¬ A = w4.heap.size := by omega
          have HLE := Lib.hid hL
          have HW5 := Lib.hid hW5
          clear hb4 hL hW5 q0 q1
          go_wp2_with fail
          rw [HW5.out, HLE.out]
          refine (HGX.out W5 L HB5.out HL5.out).mono ?_
          rintro e w6 ⟨rfl, hb6⟩
          clear p0 p1 p2 p3
          obtain ⟨W7, hW7⟩ : ∃ W7, w6.alloc (.cells #[.slice none 0 0, .slice none 0 0] 25) = W7 := ⟨_, rfl⟩
          have HB57 := Lib.hid (show Below W5.heap.size W5 W7 by rw [← hW7]; exact fb2 hb6 (box_below _ _) (Nat.le_refl _))
          have HB7 := Lib.hid (fb2 HB5.out HB57.out (Nat.le_refl _))
          have HA7 := Lib.hid (blk_on HA5.out HB57.out (blk_lt HA5.out))
          have HL7 := Lib.hid (HL5.out.on HB57.out)
          have p0 : w6.cell? ⟨A, 0, none⟩ = some (.slice va n vc) := (blk_cell (blk_on HA5.out hb6 (blk_lt HA5.out)) 0).trans rfl
          have p1 : w6.cell? ⟨A, 1, none⟩ = some (.slice ra m rc) := (blk_cell (blk_on HA5.out hb6 (blk_lt HA5.out)) 1).trans rfl
          have p2 : A < w6.heap.size := by have h1 := blk_lt HA5.out; have h2 := hb6.size; omega
          have p3 : ¬ A = w6.heap.size := by omega
          have HW7 := Lib.hid hW7
          clear hb6 hW7
          unfold noTab
          go_wp2_with fail
          rw [HW7.out]
          refine (HRK.out W7 L HB7.out HL7.out).mono ?_
          rintro e w8 ⟨rfl, hb8⟩
          have HB8 := Lib.hid (fb2 HB7.out hb8 (Nat.le_refl _))
          clear hb8 p0 p1 p2 p3
          go_wp2_with fail
          refine (HAW.out _ (HG.out.on HB8.out)).mono ?_
          rintro e w9 ⟨rfl, hb9⟩
          have HBz := Lib.hid (fb2 HB8.out hb9 (Nat.le_refl _))
          clear hb9
          go_wp2
          go_ret
          exact ⟨rfl, HBz.out⟩

end Go.Proofs.YtdnfaoanaehjhaaGreatDoor
