/- Groups of a table's rows, with what aggregates come to in each: package group's Group, for every table (written by gen/mkgroup13b.py). -/
import Derived.Test.YtdnfaoanaehjhaaGreatDoorH25
namespace Go.Proofs.YtdnfaoanaehjhaaGreatDoor
open Go.RowKit Go.Maps

theorem info_int : (Tryz.prog.info? 3).map (fun i => (i.zero, i.size, i.bytes)) = some (some (.int .i64 0), 1, 8) := by kernel_rfl

set_option maxRecDepth 100000 in
set_option maxHeartbeats 8000000 in
theorem group_no (V : List (List UInt8)) (R : List RowL) (B : List (List UInt8)) (L : List AggL) (hx : okV V) (hr : okRT R) (hB : okV B) (hL : ∀ g ∈ L, g.ok) (hz : checkG V R B L ≠ 0) (tv : Value) (ba : Option Addr) (bn bc : Nat) (la : Option Addr) (ln lc : Nat) (w : World) (ht : TabA w tv V R) (hb : TxtA w ba bn bc B) (hl : AgA w la ln lc L) (h6 : ln ≤ 1000000) :
    Calls Tryz.prog 14 #[tv, .slice ba bn bc, .slice la ln lc] w fun e w' => e = .returned (.tuple #[noTab, .int .i64 (checkG V R B L)]) ∧ Below w.heap.size w w' := by
  obtain ⟨va, n, vc, ra, m, rc, rfl, hV, hR⟩ := ht
  obtain ⟨A, hA⟩ : ∃ A, w.heap.size = A := ⟨_, rfl⟩
  obtain ⟨W0, hW0⟩ : ∃ W0, (w.alloc (.cells #[.slice va n vc, .slice ra m rc] 25)).alloc (.cells #[.slice none 0 0, .slice none 0 0] 25) = W0 := ⟨_, rfl⟩
  have HB0 := Lib.hid (show Below w.heap.size w W0 by rw [← hW0]; exact two_alloc _ _ _)
  have HE0 := Lib.hid (show Blk W0 (A + 1) 25 #[.slice none 0 0, .slice none 0 0] by
    rw [← hW0]
    have := blk_new (w.alloc (.cells #[.slice va n vc, .slice ra m rc] 25)) 25 #[.slice none 0 0, .slice none 0 0]
    rw [World.size_alloc, hA] at this
    exact this)
  have HCK := Lib.hid (gCheck_calls V R B L hx hr.r hB hL (.agg #[.slice va n vc, .slice ra m rc]) ba bn bc la ln lc W0 ⟨va, n, vc, ra, m, rc, rfl, hV.on HB0.out, hR.on HB0.out⟩ (hb.on HB0.out) (hl.on HB0.out) h6)
  have HAE := Lib.hid hA
  have HW0 := Lib.hid hW0
  have gz : (checkG V R B L != 0) = true := bne_iff_ne.2 hz
  generalize checkG V R B L = z at gz HCK ⊢
  clear hW0 hA hV hR hx hr hB hL hb hl hz
  go_enter Tryz.func14, Tryz.ntmps14
  go_wp2_with fail
  rw [HW0.out, HAE.out]
  refine (HCK.out).mono ?_
  rintro e w1 ⟨rfl, hb1⟩
  have HE1 := Lib.hid (blk_on HE0.out hb1 (blk_lt HE0.out))
  have HB1 := Lib.hid (fb2 HB0.out hb1 (Nat.le_refl _))
  clear hb1
  go_wp2_with (refine whole_abs 25 (.tmp 6) (.tmp 27) ⟨rfl, rfl⟩ (A + 1) #[.slice none 0 0, .slice none 0 0] rfl rfl 25 #[.slice none 0 0, .slice none 0 0] HE1.out (by kernel_rfl) rfl (by kernel_rfl) ?_; intro w9 hA9 hG9)
  have q2 : w9.cell? ⟨A + 1, 0, none⟩ = some (.slice none 0 0) := (blk_cell hA9.out 0).trans rfl
  have q3 : w9.cell? ⟨A + 1, 1, none⟩ = some (.slice none 0 0) := (blk_cell hA9.out 1).trans rfl
  refine bodyPost_ret (v := .tuple #[.agg #[.slice none 0 0, .slice none 0 0], .int .i64 z]) (by simp [results, Tryz.results14, q2, q3, go_sem]) rfl ⟨rfl, ?_⟩
  exact HB1.out.grown hG9.out HB1.out.size (fun j hj => by injection hj with hj; have := HAE.out; omega)

set_option maxRecDepth 100000 in
set_option maxHeartbeats 16000000 in
theorem group_yes (V : List (List UInt8)) (R : List RowL) (B : List (List UInt8)) (L : List AggL) (hx : okV V) (hr : okRT R) (hB : okV B) (hL : ∀ g ∈ L, g.ok) (hz : checkG V R B L = 0) (tv : Value) (ba : Option Addr) (bn bc : Nat) (la : Option Addr) (ln lc : Nat) (w : World) (hg : Nm.Good w) (ht : TabA w tv V R) (hb : TxtA w ba bn bc B) (hl : AgA w la ln lc L) :
    Calls Tryz.prog 14 #[tv, .slice ba bn bc, .slice la ln lc] w fun e w' => ∃ uv, e = .returned (.tuple #[uv, .int .i64 0]) ∧ TabK (fun i => w.heap.size ≤ i) w' uv (B ++ aggNames L) (groupP V B L R) ∧ Below w.heap.size w w' := by
  obtain ⟨i0, hi, hz0, hz1, hz2⟩ := info_parts info_int
  obtain ⟨j0, hj, hj0, hj1, hj2⟩ := info_parts info_term
  obtain ⟨i1, h1i, h1z, h1s, h1b⟩ := info_parts info_row
  obtain ⟨va, n, vc, ra, m, rc, rfl, hV, hR⟩ := ht
  have hmay := check_zero hz
  obtain ⟨hvn, hv32, hr4, _, hrow⟩ := right_nodup hmay.right
  have HRW := Lib.hid (fun r hr => (hrow r hr).1)
  have HMAY := Lib.hid hmay
  have HVN := Lib.hid hvn
  have HR4 := Lib.hid hr4
  have hbn : bn ≤ 32 := by rw [← hb.len]; have := hmay.long; omega
  have hln : ln ≤ 32 := by rw [← hl.len]; have := hmay.long; omega
  have hbl32 : bn + ln ≤ 32 := by rw [← hb.len, ← hl.len]; exact hmay.long
  obtain ⟨A, hA⟩ : ∃ A, w.heap.size = A := ⟨_, rfl⟩
  obtain ⟨W0, hW0⟩ : ∃ W0, (w.alloc (.cells #[.slice va n vc, .slice ra m rc] 25)).alloc (.cells #[.slice none 0 0, .slice none 0 0] 25) = W0 := ⟨_, rfl⟩
  have HB0 := Lib.hid (show Below w.heap.size w W0 by rw [← hW0]; exact two_alloc _ _ _)
  have HA0 := Lib.hid (show Blk W0 A 25 #[.slice va n vc, .slice ra m rc] by rw [← hW0, ← hA]; exact blk_alloc (blk_new _ _ _) _)
  have HE0 := Lib.hid (show Blk W0 (A + 1) 25 #[.slice none 0 0, .slice none 0 0] by
    rw [← hW0]
    have := blk_new (w.alloc (.cells #[.slice va n vc, .slice ra m rc] 25)) 25 #[.slice none 0 0, .slice none 0 0]
    rw [World.size_alloc, hA] at this
    exact this)
  have hck := gCheck_calls V R B L hx hr.r hB hL (.agg #[.slice va n vc, .slice ra m rc]) ba bn bc la ln lc W0 ⟨va, n, vc, ra, m, rc, rfl, hV.on HB0.out, hR.on HB0.out⟩ (hb.on HB0.out) (hl.on HB0.out) (by omega)
  rw [hz] at hck
  have HCK := Lib.hid hck
  have HV := Lib.hid hV
  have HR := Lib.hid hR
  have HBA := Lib.hid hb
  have HLA := Lib.hid hl
  have HXV := Lib.hid hx
  have HXB := Lib.hid hB
  have HXL := Lib.hid hL
  have HOR := Lib.hid hr
  have HG := Lib.hid hg
  have HBL := Lib.hid hb.len
  have HLL := Lib.hid hl.len
  have HRL := Lib.hid hR.len
  have hbc := hb.cap
  have hbm := hb.most
  have hlc := hl.cap
  have hlm := hl.most
  unfold maxLen at hbm hlm
  have HAE := Lib.hid hA
  have HW0 := Lib.hid hW0
  obtain ⟨K, hK⟩ : ∃ K, keysOf V B = K := ⟨_, rfl⟩
  have HKE := Lib.hid hK
  have HKL := Lib.hid (show K.length = bn by rw [← hK, keysOf_len, hb.len])
  have HKA := Lib.hid (fun k (hk : k < B.length) (hk2 : k < K.length) => show colF V B[k] = some ((K[k] : Nat) : Int) ∧ K[k] < V.length by subst hK; exact keysOf_at hvn hmay.by_ hk hk2)
  clear hW0 hA hV hR hx hr hB hL hb hl hz hck hg hK hvn hrow hr4 hmay
  go_enter Tryz.func14, Tryz.ntmps14
  go_wp2_with fail
  rw [HW0.out, HAE.out]
  refine (HCK.out).mono ?_
  rintro e w1 ⟨rfl, hb1⟩
  have HE1 := Lib.hid (blk_on HE0.out hb1 (blk_lt HE0.out))
  have HA1 := Lib.hid (blk_on HA0.out hb1 (blk_lt HA0.out))
  have HB1 := Lib.hid (fb2 HB0.out hb1 (Nat.le_refl _))
  have q0 : w1.cell? ⟨A, 0, none⟩ = some (.slice va n vc) := (blk_cell HA1.out 0).trans rfl
  clear hb1 HCK HW0
  go_wp2_with fail
  refine (gcols_calls V HXV.out va n vc w1 (HV.out.on HB1.out)).mono ?_
  rintro e w2 ⟨b, rfl, hbe, hm2, hb2⟩
  have HM2 := Lib.hid hm2
  have HB2 := Lib.hid (fb2 HB1.out hb2 (Nat.le_refl _))
  have HE2 := Lib.hid (blk_on HE1.out hb2 (blk_lt HE1.out))
  have HA2 := Lib.hid (blk_on HA1.out hb2 (blk_lt HA1.out))
  clear hb2 hbe hm2 q0
  obtain ⟨Y, hY⟩ : ∃ Y, w2.heap.size = Y := ⟨_, rfl⟩
  have HYE := Lib.hid hY
  go_wp2_with (at_make; refine make_abs (.tmp 33) (.tmp 33) 71 ⟨rfl, rfl⟩ 3 i0 (.int .i64 0) 1 Tryz.underlying71 hi hz0 hz1 .i64 .i64 bn rfl rfl (by rw [hz2]; omega) (by unfold maxLen; omega) Y HYE.out ?_; intro w3 hG3 hb3; have HG3 := Lib.hid hG3.out; have HB23 := Lib.hid hb3.out; clear hG3 hb3)
  have HY3 := Lib.hid (show Blk w3 Y 3 (intArr K 0).toArray from by
    have := HG3.out
    have hmm : madeCells (Value.cells (.int .i64 0)) (bn * 1) = ((List.replicate bn [Value.int .i64 0]).flatten).toArray := made_list (.int .i64 0) bn [.int .i64 0] rfl (by decide)
    rw [hmm] at this
    unfold intArr
    rw [List.take_zero, List.map_nil, List.nil_append, Nat.sub_zero, HKL.out]
    simpa using this)
  clear hY HG3
  go_loopg [11, 12, 37] bn (fun g _ _ i wr => ∃ k : Nat, i = .int .i64 k ∧ k + g = bn ∧ Hid (Blk wr Y 3 (intArr K k).toArray) ∧ Hid (Below w2.heap.size w2 wr))
  case atStart => exact ⟨0, rfl, by omega, HY3, HB23⟩
  case round =>
    obtain ⟨W1, rfl⟩ : ∃ W1, W1 = wr := ⟨_, rfl⟩
    obtain ⟨k, rfl, hkg, HYK, HBW⟩ := hrel
    have k0 : (0 : Int) ≤ (k : Int) := by omega
    by_cases hk : k < bn
    · obtain ⟨gg, rfl⟩ : ∃ gg, gk = gg + 1 := ⟨gk - 1, by omega⟩
      have hkB : k < B.length := by rw [HBL.out]; exact hk
      have hkK : k < K.length := by rw [HKL.out]; exact hk
      obtain ⟨g, o, ha, hgw, hcells⟩ := HBA.out.cells (by omega)
      subst ha
      have hbw := HB2.out.size
      have HBT := Lib.hid (fb2 HB2.out HBW.out (Nat.le_refl _))
      have c0 : W1.cell? ⟨g, o + k, none⟩ = some (.string (bs B[k])) := keptC (hcells k hkB) HBT.out hgw
      have HOK := Lib.hid (HXB.out _ (List.getElem_mem hkB))
      have HCF := Lib.hid (HKA.out k hkB hkK).1
      have HM1 := Lib.hid (HM2.out.on HBW.out)
      have HSET := Lib.hid (int_set hkK)
      have HSZ := Lib.hid (show k < (intArr K k).length by rw [int_size K (by omega)]; exact hkK)
      clear hcells
      generalize B[k] = x at c0 HOK HCF
      generalize K[k] = q at HCF HSET
      have k1 : (k : Int) < (bn : Int) := by omega
      go_wp2_with (first
        | (at_lookup; refine wpList_see_g rfl _ _ 62 rfl keyS Tryz.underlying62 rfl HM1.out x HOK.out rfl ?_; rw [HCF.out]; simp only [Option.getD_some])
        | (refine one_abs 3 (.tmp 47) (.tmp 46) ⟨rfl, rfl⟩ Y k (.int .i64 q) rfl rfl rfl rfl 3 (intArr K k) HYK.out (by kernel_rfl) HSZ.out ?_; intro w5 h5 g5))
      go_roundg gg
      case measure => omega
      case rel => exact ⟨k + 1, by go_num, by omega, Lib.hid (by have := h5.out; rw [HSET.out] at this; exact this), Lib.hid (HBW.out.grown g5.out HBW.out.size (fun q hq => by injection hq with hq; have := HYE.out; omega))⟩
    · have hkn : bn = k := by omega
      subst hkn
      have k1 : ¬ (bn : Int) < (bn : Int) := by omega
      have HYF := Lib.hid (show Blk W1 Y 3 (intArr K K.length).toArray by rw [HKL.out]; exact HYK.out)
      have HBT := Lib.hid (fb2 HB2.out HBW.out (Nat.le_refl _))
      have HM4 := Lib.hid (HM2.out.on HBW.out)
      have HA4 := Lib.hid (blk_on HA2.out HBW.out (blk_lt HA2.out))
      have HE4 := Lib.hid (blk_on HE2.out HBW.out (blk_lt HE2.out))
      clear HM2 HYK HA2 HE2 HY3 HB23
      go_wp2_with fail
      refine (namesOf_calls L la ln lc W1 (HLA.out.on HBT.out) (by omega)).mono ?_
      rintro e w5 ⟨gn, rfl, hN5, hb5⟩
      have HB5 := Lib.hid (fb2 HBT.out hb5 (Nat.le_refl _))
      have HB15 := Lib.hid hb5
      obtain ⟨W6, hW6⟩ : ∃ W6, w5.alloc (.cells #[.slice ba bn bc, .slice (some ⟨gn, 0, none⟩) ln ln] 22) = W6 := ⟨_, rfl⟩
      obtain ⟨X2, hX2⟩ : ∃ X2, w5.heap.size = X2 := ⟨_, rfl⟩
      have HB56 := Lib.hid (show Below w5.heap.size w5 W6 by rw [← hW6]; exact box_below _ _)
      have HX6 := Lib.hid (show Blk W6 X2 22 #[.slice ba bn bc, .slice (some ⟨gn, 0, none⟩) ln ln] by rw [← hW6, ← hX2]; exact blk_new _ _ _)
      have HN6 := Lib.hid (show TxtA W6 (some ⟨gn, 0, none⟩) ln ln (aggNames L) from (txtA_blk hN5 (by unfold aggNames; rw [List.length_map]; exact HLL.out) (by unfold maxLen; omega)).on HB56.out)
      have HW6 := Lib.hid hW6
      have HX2E := Lib.hid hX2
      clear hN5 hb5 hW6 hX2
      go_wp2_with fail
      rw [HW6.out, HX2E.out]
      refine (concat_calls B (aggNames L) ba bn bc (some ⟨gn, 0, none⟩) ln ln X2 W6 HX6.out (HBA.out.on (fb2 HB5.out HB56.out (Nat.le_refl _))) HN6.out (by omega) (by omega)).mono ?_
      rintro e w7 ⟨ua, un, uc, rfl, hU7, hb7⟩
      have hun : un = bn + ln := by
        have := hU7.len
        rw [List.length_append, HBL.out] at this
        unfold aggNames at this
        rw [List.length_map, HLL.out] at this
        exact this.symm
      subst hun
      have HU7 := Lib.hid hU7
      obtain ⟨T, hT⟩ : ∃ T, w7.heap.size = T := ⟨_, rfl⟩
      obtain ⟨w8, hw8⟩ : ∃ w8, w7.alloc (.cells #[.slice ua (bn + ln) uc, .slice none 0 0] 25) = w8 := ⟨_, rfl⟩
      have HB17 := Lib.hid (show Below W1.heap.size W1 w7 from fb2 (fb2 HB15.out HB56.out (Nat.le_refl _)) hb7 (Nat.le_refl _))
      have HB78 := Lib.hid (show Below w7.heap.size w7 w8 by rw [← hw8]; exact box_below _ _)
      have HB18 := Lib.hid (show Below W1.heap.size W1 w8 from fb2 HB17.out HB78.out (Nat.le_refl _))
      have HB08 := Lib.hid (show Below w.heap.size w w8 from fb2 HBT.out HB18.out (Nat.le_refl _))
      have HT8 := Lib.hid (show Blk w8 T 25 #[.slice ua (bn + ln) uc, .slice none 0 0] by rw [← hw8, ← hT]; exact blk_new _ _ _)
      have HA8 := Lib.hid (blk_on HA4.out HB18.out (blk_lt HA4.out))
      have HE8 := Lib.hid (blk_on HE4.out HB18.out (blk_lt HE4.out))
      have HY8 := Lib.hid (blk_on HYF.out HB18.out (blk_lt HYF.out))
      have HM8 := Lib.hid (HM4.out.on HB18.out)
      have HK8 := Lib.hid (int_blk HY8.out HKL.out (by unfold maxLen; omega))
      have HRJ := Lib.hid (((row_low (HR.out.on (fb2 HBT.out HB17.out (Nat.le_refl _)))).on ((stay_below HB78.out).mono (fun _ _ _ => trivial))).mono (H' := fun i => i < T) (K' := fun _ => True) (fun i _ h => by have h2 : i < w7.heap.size := h; omega) (fun _ _ _ => trivial))
      have HTS := Lib.hid (show T < w8.heap.size from blk_lt HT8.out)
      have HYT := Lib.hid (show Y ≠ T by have h1 := blk_lt HYF.out; have h2 := HB17.out.size; omega)
      have HET := Lib.hid (show A + 1 < T by have h1 := blk_lt HE4.out; have h2 := HB17.out.size; omega)
      have HbT := Lib.hid (show b < T by have h1 := HM4.out.lt; have h2 := HB17.out.size; omega)
      have HwT := Lib.hid (show w.heap.size ≤ T by have h1 := HBT.out.size; have h2 := HB17.out.size; omega)
      have HU8 := Lib.hid (HU7.out.on ((stay_below HB78.out).mono (fun _ _ _ => trivial)))
      have HUT := Lib.hid ((HU7.out.mono (K' := fun i => W6.heap.size ≤ i ∧ i < T) (fun i hi hk => ⟨hk.1, by rw [← hT]; exact hi⟩)).on ((stay_below HB78.out).mono (fun _ _ _ => trivial)))
      have HTE := Lib.hid hT
      have HE6S := Lib.hid (show A + 1 < W6.heap.size by have h1 := blk_lt HE4.out; have h2 := HB15.out.size; have h3 := HB56.out.size; omega)
      have HW8 := Lib.hid hw8
      have p1 : w8.cell? ⟨A, 1, none⟩ = some (.slice ra m rc) := (blk_cell HA8.out 1).trans rfl
      have p2 : w7.cell? ⟨A, 1, none⟩ = some (.slice ra m rc) := (blk_cell (blk_on HA4.out HB17.out (blk_lt HA4.out)) 1).trans rfl
      have p3 : A < w7.heap.size := by have := HET.out; omega
      have p4 : ¬ A = w7.heap.size := by omega
      have hgt := gathered_calls K R HOR.out (fun r hr i hi => by rw [HRW.out r hr]; have := keysOf_lt HMAY.out.by_; rw [HKE.out] at this; exact this i hi) (by rw [HKL.out]; exact hbn) HR4.out ra m rc (some ⟨Y, 0, none⟩) bn bn w8 (HG.out.on HB08.out) (fun i => i < T) HRJ.out HK8.out
      have hga := groups_are HMAY.out.by_ R
      rw [HKE.out] at hga
      rw [hga] at hgt
      have HGT := Lib.hid hgt
      clear hgt hga hU7 hb7 hT hw8
      go_wp2_with fail
      rw [HW8.out, HTE.out]
      refine HGT.out.mono ?_
      rintro e w9 ⟨ga, gn9, gc, rfl, hG9, hb9⟩
      have HT9 := Lib.hid (blk_on HT8.out hb9 (blk_lt HT8.out))
      have HB09 := Lib.hid (fb2 HB08.out hb9 (Nat.le_refl _))
      have HM9 := Lib.hid (HM8.out.on hb9)
      have HY9 := Lib.hid (blk_on HY8.out hb9 (blk_lt HY8.out))
      have HE9 := Lib.hid (blk_on HE8.out hb9 (blk_lt HE8.out))
      have HU9 := Lib.hid (HUT.out.on ((stay_below hb9).mono (fun _ _ _ => trivial)))
      have HLA9 := Lib.hid (HLA.out.on HB09.out)
      have hTz := HTS.out
      have HGJ := Lib.hid ((hG9.mono (H' := fun i => i ≠ T) (K' := fun _ => True) (fun i _ hi => by rcases hi with hi | hi <;> omega) (fun _ _ _ => trivial)).ne HT9.out (by intro _ _ c; cases c) (by intro _ _ c; cases c))
      have HGL := Lib.hid hG9.len
      have HSUB := Lib.hid (fun G (h : G ∈ groupsP V B R) => groups_sub (V := V) (B := B) (R := R) h)
      have hgl4 : gn9 ≤ 4096 := by rw [← hG9.len]; exact groups_len V B R HR4.out
      have HT9S := Lib.hid (show T < w9.heap.size from blk_lt HT9.out)
      have HS9 := Lib.hid (show LnsR T w9 (.slice ua (bn + ln) uc) (.slice none 0 0) ((groupP V B L R).take 0) w9 from ⟨HT9.out, ⟨[], by rw [List.take_zero]; exact World.ownsRow_nil _ _ _ _, by rw [List.take_zero]; exact rowCK_nil _ _⟩, grown_refl _ _⟩)
      have HPL := Lib.hid (show (groupP V B L R).length = gn9 by unfold groupP; rw [List.length_map]; exact hG9.len)
      have HTK := Lib.hid (fun i (h : i < (groupsP V B R).length) => show (groupP V B L R).take i ++ [lineP V B L (groupsP V B R)[i]] = (groupP V B L R).take (i + 1) by
        have hp : i < (groupP V B L R).length := by unfold groupP; rw [List.length_map]; exact h
        rw [List.take_succ_eq_append_getElem hp]
        congr 2
        exact (List.getElem_map _).symm)
      have hgc := hG9.cap
      have hgm := hG9.most
      unfold maxLen at hgm
      generalize groupsP V B R = GS at HGJ HGL HSUB HTK
      clear hG9 hb9 p1 p2 p3 p4 HGT HRJ HU7 HU8 HT8 HA8 HE8 HY8 HK8 HM8 HUT
      go_wp2
      go_loopg [15, 16, 18, 60] gn9 (fun g _ _ _ i wr => ∃ (i' : Nat) (v : Value), i = .int .i64 i' ∧ i' + g = gn9 ∧ Hid (LnsR T w9 (.slice ua (bn + ln) uc) v ((groupP V B L R).take i') wr))
      case atStart => exact ⟨0, _, rfl, by omega, HS9⟩
      case round =>
        obtain ⟨Wa, rfl⟩ : ∃ Wa, Wa = wr := ⟨_, rfl⟩
        obtain ⟨i, v, rfl, hig, HRD⟩ := hrel
        have ii0 : (0 : Int) ≤ (i : Int) := by omega
        have HSM := Lib.hid HRD.out.same
        have HTA := Lib.hid HRD.out.all
        by_cases hin : i < gn9
        · obtain ⟨g1, rfl⟩ : ∃ g1, gk = g1 + 1 := ⟨gk - 1, by omega⟩
          have hiL : i < GS.length := by rw [HGL.out]; exact hin
          have hJW := HGJ.out.on ((stay_row HSM.out).mono (fun i _ h => h.elim id id))
          obtain ⟨gg, go, hga, hggw, _, hcells⟩ := hJW.cells (by omega)
          subst hga
          obtain ⟨a', c', hcell, hrowJ⟩ := hcells i hiL
          have HROW := Lib.hid hrowJ.a
          have hmem := HSUB.out _ (List.getElem_mem hiL)
          have hline := HTK.out i hiL
          generalize GS[i] = G at hcell HROW hmem hline
          obtain ⟨gl, hgl⟩ : ∃ gl, G.length = gl := ⟨_, rfl⟩
          rw [hgl] at hcell HROW hmem
          have HGLN := Lib.hid hgl
          have HMEM := Lib.hid hmem
          have HLINE := Lib.hid hline
          have gl4 : gl ≤ 4096 := by have h1 := hmem.2.2; have h2 := HR4.out; omega
          have HBWa := Lib.hid (show Below w.heap.size w Wa from HB09.out.grown HSM.out HB09.out.size (fun q hq => by injection hq with hq; have := HwT.out; omega))
          have HYa := Lib.hid (blk_grown HY9.out HYT.out HSM.out)
          have HMa := Lib.hid (HM9.out.kept HSM.out (fun e => by injection e with e; have := HbT.out; omega))
          have HLa := Lib.hid (HLA.out.on HBWa.out)
          have HGa := Lib.hid (HG.out.on HBWa.out)
          have t0 : Wa.cell? ⟨T, 0, none⟩ = some (.slice ua (bn + ln) uc) := (blk_cell HTA.out 0).trans rfl
          have hTa := blk_lt HTA.out
          obtain ⟨N, hN⟩ : ∃ N, Wa.heap.size = N := ⟨_, rfl⟩
          have HNE := Lib.hid hN
          have i1' : (i : Int) < (gn9 : Int) := by omega
          have HCELL := Lib.hid hcell
          have hrcap := HROW.out.cap
          have hrmost := HROW.out.most
          unfold maxLen at hrmost
          clear hcells hrowJ hmem hline hgl hJW hN
          go_wp2_with (at_make; refine wpList_make_own _ rfl _ (.tmp 66) 35 rfl N 37 j0 nilT.v 4 Tryz.underlying35 hj hj0 hj1 .i64 .i64 _ (bn + ln) rfl rfl rfl (by rw [hj2]; omega) (by unfold maxLen; omega) (by rw [HNE.out]; exact Nat.le_refl _) ?_; intro w10 ho10 hg10; have HO10 := Lib.hid ho10; have HG10 := Lib.hid hg10; clear ho10 hg10)
          rw [HNE.out]
          have HI0 := Lib.hid (show LineR Wa N (.slice (some ⟨N, 0, none⟩) 0 (bn + ln)) ((keyP V B (G.headD [])).take 0) w10 from by
            have hb := (Below.refl N Wa).grown HG10.out (by rw [HNE.out]; exact Nat.le_refl _) (fun q hq => by cases hq)
            have ho := HO10.out
            rw [HNE.out] at ho
            rw [List.take_zero]
            exact ⟨ho, hb, by have := HG10.out.size; rw [HNE.out] at this; exact this⟩)
          clear hcell t0 HO10 HG10
          go_loopg [16, 18, 70] bn (fun g rv _ j wr => ∃ j' : Nat, j = .int .i64 j' ∧ j' + g = bn ∧ Hid (LineR Wa N rv ((keyP V B (G.headD [])).take j') wr))
          case atStart => exact ⟨0, rfl, by omega, HI0⟩
          case round =>
            obtain ⟨Wc, rfl⟩ : ∃ Wc, Wc = wr := ⟨_, rfl⟩
            obtain ⟨j, rfl, hjg, HIN⟩ := hrel
            have jj0 : (0 : Int) ≤ (j : Int) := by omega
            have HBac := Lib.hid (show Below Wa.heap.size Wa Wc from HIN.out.below.mono (by rw [HNE.out]; exact Nat.le_refl _))
            by_cases hjb : j < bn
            · obtain ⟨g2, rfl⟩ : ∃ g2, gk = g2 + 1 := ⟨gk - 1, by omega⟩
              have hjK : j < K.length := by rw [HKL.out]; exact hjb
              have hjB : j < B.length := by rw [HBL.out]; exact hjb
              have hglp : 0 < gl := HMEM.out.2.1 (fun c => by rw [c] at hjB; simp at hjB)
              obtain ⟨rg, ro, hra, hrgw, hrc⟩ := HROW.out.cells hglp
              subst hra
              have hG0 : 0 < G.length := by rw [HGLN.out]; exact hglp
              obtain ⟨a0, c0, hc0, ht0⟩ := hrc 0 hG0
              rw [Nat.add_zero] at hc0
              have hlen0 : G[0].length = V.length := HRW.out _ (HMEM.out.1 _ (List.getElem_mem hG0))
              have hKj : K[j] < G[0].length := by rw [hlen0]; exact (HKA.out j hjB hjK).2
              have hhd : G.headD [] = G[0] := by
                cases G with
                | nil => exact absurd hG0 (Nat.lt_irrefl _)
                | cons y r => rfl
              have hkey : keyK K G[0] = keyP V B (G.headD []) := by rw [hhd, ← HKE.out]; exact keysOf_key HMAY.out.by_ _
              have hkl : j < (keyP V B (G.headD [])).length := by rw [key_len]; exact hjB
              have hat : (keyP V B (G.headD []))[j] = G[0][K[j]] := by
                have h1 : j < (keyK K G[0]).length := by rw [keyK_len]; exact hjK
                have h2 := keyK_at h1 hjK hKj
                simp only [hkey] at h2
                exact h2
              have HNX := Lib.hid (show (keyP V B (G.headD [])).take j ++ [G[0][K[j]]] = (keyP V B (G.headD [])).take (j + 1) by rw [← hat, ← List.take_succ_eq_append_getElem hkl])
              have HLJ := Lib.hid (show ((keyP V B (G.headD [])).take j).length = j by rw [List.length_take]; omega)
              obtain ⟨tg, tof, hta, htgw, htc⟩ := ht0.cells (by omega)
              subst hta
              have htm := (htc K[j] hKj).on HBac.out htgw
              have cy : Wc.cell? ⟨Y, j, none⟩ = some (.int .i64 (K[j] : Nat)) := keptC (by rw [blk_cell HYa.out]; unfold intArr; simp [hjK]) HBac.out (blk_lt HYa.out)
              have cy2 : Wc.cell? ⟨Y, 0 + j, none⟩ = some (.int .i64 (K[j] : Nat)) := by rw [Nat.zero_add]; exact cy
              have r0 : Wc.cell? ⟨rg, ro, none⟩ = some (.slice (some ⟨tg, tof, none⟩) G[0].length c0) := keptC hc0 HBac.out hrgw
              have tcap := ht0.cap
              have tmost := ht0.most
              unfold maxLen at tmost
              clear hat hkey hhd hc0 ht0 htc hrc
              generalize G[0][K[j]] = y at htm HNX
              generalize G[0].length = yl at r0 hKj tcap hlen0
              generalize K[j] = q at htm cy cy2 hKj
              obtain ⟨d0, d1, d2, d3⟩ := htm
              have hO := HIN.out.own
              rw [HLJ.out] at hO
              have HOW := Lib.hid hO
              have HM1 := Lib.hid (show j + 1 ≤ maxLen by unfold maxLen; omega)
              have HM2 := Lib.hid (show (j + 1) * 56 ≤ 140737488355328 by omega)
              have HZ := Lib.hid (show N ≤ Wc.heap.size from HIN.out.size)
              have q0' : (0 : Int) ≤ (q : Int) := by omega
              have q1' : (q : Int) < (yl : Int) := by omega
              have j1' : (j : Int) < (bn : Int) := by omega
              have g0' : (0 : Int) < (gl : Int) := by omega
              clear hO hlen0
              go_wp2_with (at_builtin; (refine wpList_append_own_at _ rfl (.tmp 74) (.tmp 81) 35 rfl N 37 j0 nilT.v 4 56 Tryz.underlying35 hj hj0 hj1 hj2 rfl (by decide) u16 _ _ rfl (HOW.out.alloc _) ⟨Wc.heap.size, 0, none⟩ 1 1 y.cs rfl rfl (news_gen _ _ _ (by simp)) (cs_cell y) HM1.out HM2.out (Nat.le_trans HZ.out (by simp)) ?_; intro v4 w4 ho4 hg4 _ _; have HO4 := Lib.hid ho4; have HG4 := Lib.hid hg4; clear ho4 hg4))
              have HI5 := Lib.hid (show LineR Wa N v4 ((keyP V B (G.headD [])).take (j + 1)) w4 from by
                rw [← HNX.out]
                have hb4 : Below N Wa w4 := (HIN.out.below.trans ((box_below Wc _).mono HZ.out)).grown HG4.out (by have := HNE.out; have h2 := HZ.out; simp; omega) (fun q hq => (HOW.out.lt q hq).1)
                refine ⟨?_, hb4, by have := hb4.size; rw [HNE.out] at this; exact this⟩
                rw [List.length_append, HLJ.out, cellsT_append, cellsT_one]
                exact HO4.out)
              clear HO4 HG4 HOW
              go_roundg g2
              case measure => omega
              case rel => exact ⟨j + 1, by go_num, by omega, HI5⟩
            · have hjn : bn = j := by omega
              subst hjn
              have j1' : ¬ (bn : Int) < (bn : Int) := by omega
              have HIK := Lib.hid (show LineR Wa N u16 (keyP V B (G.headD []) ++ (L.map (comesP V G)).take 0) Wc from by
                have hl : (keyP V B (G.headD [])).length ≤ bn := by rw [key_len, HBL.out]; exact Nat.le_refl _
                have := HIN.out
                rw [List.take_of_length_le hl] at this
                rw [List.take_zero, List.append_nil]
                exact this)
              clear HIN HI0 HBac
              have HKYL := Lib.hid (show (keyP V B (G.headD [])).length = bn by rw [key_len, HBL.out])
              go_wp2
              go_loopg [16, 86] ln (fun g rv j wr => ∃ j' : Nat, j = .int .i64 j' ∧ j' + g = ln ∧ Hid (LineR Wa N rv (keyP V B (G.headD []) ++ (L.map (comesP V G)).take j') wr))
              case atStart => exact ⟨0, rfl, by omega, HIK⟩
              case round =>
                obtain ⟨Wd, rfl⟩ : ∃ Wd, Wd = wr := ⟨_, rfl⟩
                obtain ⟨j, rfl, hjg, HIN⟩ := hrel
                have jj0 : (0 : Int) ≤ (j : Int) := by omega
                have HBad := Lib.hid (show Below Wa.heap.size Wa Wd from HIN.out.below.mono (by rw [HNE.out]; exact Nat.le_refl _))
                have HZ := Lib.hid (show N ≤ Wd.heap.size from HIN.out.size)
                have HMPL := Lib.hid (show (L.map (comesP V G)).length = ln by rw [List.length_map, HLL.out])
                have HLJ := Lib.hid (show (keyP V B (G.headD []) ++ (L.map (comesP V G)).take j).length = bn + j by rw [List.length_append, HKYL.out, List.length_take, HMPL.out]; omega)
                by_cases hjl : j < ln
                · obtain ⟨g2, rfl⟩ : ∃ g2, gk = g2 + 1 := ⟨gk - 1, by omega⟩
                  have hjL : j < L.length := by rw [HLL.out]; exact hjl
                  obtain ⟨ag, ao, hla, hagw, hac⟩ := HLa.out.cells (by omega)
                  subst hla
                  obtain ⟨e0, e1, e2⟩ := (hac j hjL).on HBad.out hagw
                  have hform := agg_is (HMAY.out.form _ (List.getElem_mem hjL))
                  have hover := HMAY.out.over _ (List.getElem_mem hjL)
                  have hokA := HXL.out _ (List.getElem_mem hjL)
                  have hml : j < (L.map (comesP V G)).length := by rw [HMPL.out]; exact hjl
                  have HNX := Lib.hid (show keyP V B (G.headD []) ++ (L.map (comesP V G)).take j ++ [comesP V G L[j]] = keyP V B (G.headD []) ++ (L.map (comesP V G)).take (j + 1) by
                    rw [List.append_assoc, List.take_succ_eq_append_getElem hml, List.getElem_map])
                  obtain ⟨We, hWe⟩ : ∃ We, Wd.alloc (.cells #[.int .i64 L[j].k, .string (bs L[j].o), .string (bs L[j].m)] 41) = We := ⟨_, rfl⟩
                  have HBde := Lib.hid (show Below Wd.heap.size Wd We by rw [← hWe]; exact box_below _ _)
                  have HBae := Lib.hid (fb2 HBad.out HBde.out (Nat.le_refl _))
                  have hcm := comesTo_calls V G L[j] HVN.out hform.1 hform.2 hover hokA.1 (fun r hr => HRW.out r (HMEM.out.1 r hr)) (fun r hr => HOR.out.r r (HMEM.out.1 r hr)) b a' gl c' We (HGa.out.on HBae.out) (HMa.out.on HBae.out) (HROW.out.on HBae.out) gl4
                  have HWe := Lib.hid hWe
                  generalize L[j] = x at e0 e1 e2 hcm HNX HWe
                  obtain ⟨xk, xo, xm⟩ := x
                  dsimp only at e0 e1 e2 HWe
                  simp only [AggL.v] at hcm
                  generalize comesP V G ⟨xk, xo, xm⟩ = y at hcm HNX
                  have HCM := Lib.hid hcm
                  have hO := HIN.out.own
                  rw [HLJ.out] at hO
                  have HOW := Lib.hid (own_same hO (fun g hg => HBde.out.block g (hO.lt g hg).2))
                  have HM1 := Lib.hid (show bn + j + 1 ≤ maxLen by unfold maxLen; omega)
                  have HM2 := Lib.hid (show (bn + j + 1) * 56 ≤ 140737488355328 by omega)
                  have j1' : (j : Int) < (ln : Int) := by omega
                  simp only [TermL.v] at hcm
                  have HCM := Lib.hid hcm
                  clear hac hform hover hokA hml hWe hcm hO
                  go_wp2_with fail
                  rw [HWe.out]
                  refine HCM.out.mono ?_
                  rintro e w12 ⟨rfl, hb12⟩
                  have HB12 := Lib.hid hb12
                  have HO12 := Lib.hid (own_same HOW.out (fun g hg => hb12.block g (HOW.out.lt g hg).2))
                  have HZ12 := Lib.hid (Nat.le_trans HZ.out (Nat.le_trans HBde.out.size hb12.size))
                  clear hb12 HCM
                  go_wp2_with (at_builtin; (refine wpList_append_own_at _ rfl (.tmp 90) (.tmp 95) 35 rfl N 37 j0 nilT.v 4 56 Tryz.underlying35 hj hj0 hj1 hj2 rfl (by decide) u16 _ _ rfl (HO12.out.alloc _) ⟨w12.heap.size, 0, none⟩ 1 1 y.cs rfl rfl (news_gen _ _ _ (by simp)) (cs_cell y) HM1.out HM2.out (Nat.le_trans HZ12.out (by simp)) ?_; intro v4 w4 ho4 hg4 _ _; have HO4 := Lib.hid ho4; have HG4 := Lib.hid hg4; clear ho4 hg4))
                  have HI5 := Lib.hid (show LineR Wa N v4 (keyP V B (G.headD []) ++ (L.map (comesP V G)).take (j + 1)) w4 from by
                    rw [← HNX.out]
                    have hb4 : Below N Wa w4 := (HIN.out.below.trans (((fb2 HBde.out HB12.out (Nat.le_refl _)).trans ((box_below w12 _).mono (Nat.le_trans HBde.out.size HB12.out.size))).mono HZ.out)).grown HG4.out (by have h1 := HNE.out; have h2 := HZ12.out; simp; omega) (fun q hq => (HOW.out.lt q hq).1)
                    refine ⟨?_, hb4, by have := hb4.size; rw [HNE.out] at this; exact this⟩
                    rw [List.length_append, HLJ.out, cellsT_append, cellsT_one]
                    exact HO4.out)
                  clear HO4 HG4 HOW HO12
                  go_roundg g2
                  case measure => omega
                  case rel => exact ⟨j + 1, by go_num, by omega, HI5⟩
                · have j1' : ¬ (j : Int) < (ln : Int) := by omega
                  have hlp : keyP V B (G.headD []) ++ (L.map (comesP V G)).take j = lineP V B L G := by
                    rw [List.take_of_length_le (by rw [HMPL.out]; omega)]
                    rfl
                  have hown := HIN.out.own
                  rw [hlp] at hown
                  have HYLN := Lib.hid (show (lineP V B L G).length = bn + ln by unfold lineP; rw [List.length_append, HKYL.out, HMPL.out])
                  rw [HYLN.out] at hown
                  obtain ⟨a3, c3, hvf, ht3⟩ := own_trms hown
                  subst hvf
                  have HT3 := Lib.hid (ht3.mono (K' := fun b => Wa.heap.size ≤ b ∧ isT Wd b) (fun b _ hk => ⟨by rw [HNE.out]; exact hk.1, hk.2⟩))
                  have HTd := Lib.hid (blk_on HTA.out HBad.out hTa)
                  have t0 : Wd.cell? ⟨T, 0, none⟩ = some (.slice ua (bn + ln) uc) := (blk_cell HTd.out 0).trans rfl
                  have t1 : Wd.cell? ⟨T, 1, none⟩ = some v := (blk_cell HTd.out 1).trans rfl
                  have hTd := blk_lt HTd.out
                  have hTn : ¬ T = Wd.heap.size := by omega
                  have hTn2 : ¬ Wd.heap.size = T := by omega
                  obtain ⟨cs, hown1, hrc1⟩ := HRD.out.own
                  have HL1 := Lib.hid (show ((groupP V B L R).take i).length = i by rw [List.length_take, HPL.out]; omega)
                  rw [HL1.out] at hown1
                  have HOW1 := Lib.hid hown1
                  have HRC1 := Lib.hid hrc1
                  have HOW2 := Lib.hid (own_same hown1 (fun g hg => HBad.out.block g (hown1.lt g hg).2))
                  have HOB : Hid (∀ e, Value.ownBlock v = some e → w9.heap.size ≤ e) := Lib.hid (fun e he => (hown1.lt e he).1)
                  have HSX2 := Lib.hid (show w9.heap.size ≤ Wd.heap.size from Nat.le_trans HSM.out.size HBad.out.size)
                  have hT9 := HT9S.out
                  clear hown ht3 hown1 hrc1 hlp
                  go_wp2_with (first
                    | (at_builtin; (refine append_any (.tmp 99) (.tmp 101) 23 ⟨rfl, rfl⟩ w9.heap.size 35 i1 (.slice none 0 0) 1 24 Tryz.underlying23 h1i h1z h1s h1b rfl (by decide) v i _ rfl (HOW2.out.alloc _) (some ⟨Wd.heap.size, 0, none⟩) 1 1 [.slice a3 (bn + ln) c3] rfl rfl (newsG (blk_new _ _ _)) oneCellG (by unfold maxLen; omega) (by omega) (by have := HSX2.out; simp; omega) ?_; intro v5 w5 ho5 hg5 _; have HX5 := Lib.hid (show Blk w5 T 25 #[.slice ua (bn + ln) uc, v] from (hg5.out.block T (by simp; omega) (fun e => by have h1 := HOB.out _ e.symm; have h2 := HT9S.out; omega)).trans (blk_alloc HTd.out _))))
                    | (refine one_abs 23 (.tmp 103) (.tmp 102) ⟨rfl, rfl⟩ T 1 v5 rfl rfl (own_cells ho5.out).1 (own_cells ho5.out).2 25 [.slice ua (bn + ln) uc, v] HX5.out (by kernel_rfl) (by simp) ?_; intro w6 hX6 hg6))
                  have HR6 := Lib.hid (show LnsR T w9 (.slice ua (bn + ln) uc) v5 ((groupP V B L R).take (i + 1)) w6 from lns_next HT9S.out HRD.out HRC1.out HOW1.out HL1.out HBad.out (box_below Wd _) HT3.out HYLN.out HLINE.out ho5.out hg5.out hX6.out hg6.out)
                  clear hX6 hg6 ho5 hg5 HX5 t0 t1
                  go_roundg g1
                  case measure => omega
                  case rel => exact ⟨i + 1, v5, by go_num, by omega, HR6⟩
        · have i1' : ¬ (i : Int) < (gn9 : Int) := by omega
          have hE : (groupP V B L R).take i = groupP V B L R := List.take_of_length_le (by have := HPL.out; omega)
          have t0 : Wa.cell? ⟨T, 0, none⟩ = some (.slice ua (bn + ln) uc) := (blk_cell HTA.out 0).trans rfl
          have t1 : Wa.cell? ⟨T, 1, none⟩ = some v := (blk_cell HTA.out 1).trans rfl
          obtain ⟨cs, hown, hrc⟩ := HRD.out.own
          rw [hE] at hown hrc
          rw [HPL.out] at hown
          have HOW := Lib.hid hown
          have HRC := Lib.hid hrc
          have HEa := Lib.hid (blk_grown HE9.out (by have := HET.out; omega) HSM.out)
          have hv1 : (#[.slice ua (bn + ln) uc, v] : Array Value).all (fun x => x.oneCell') = true := by
            have h1 := (own_cells hown).2
            have h2 : (Value.slice ua (bn + ln) uc).oneCell' = true := rfl
            simp [h1, h2]
          clear hown hrc hE
          go_wp2_with (refine whole_abs 25 (.tmp 6) (.tmp 105) ⟨rfl, rfl⟩ (A + 1) #[.slice ua (bn + ln) uc, v] rfl rfl 25 #[.slice none 0 0, .slice none 0 0] HEa.out (by kernel_rfl) rfl hv1 ?_; intro w13 hA13 hG13)
          have hae := HAE.out
          have hat := HET.out
          have hwT := HwT.out
          have h9T := HT9S.out
          have HBWa := Lib.hid (show Below w.heap.size w Wa from HB09.out.grown HSM.out HB09.out.size (fun q hq => by injection hq with hq; omega))
          have hb13 : Below w.heap.size w w13 := HBWa.out.grown hG13.out HBWa.out.size (fun q hq => by injection hq with hq; omega)
          have hne : ∀ b, b ≠ A + 1 → b < Wa.heap.size → w13.heap[b]? = Wa.heap[b]? := fun b hx hb => hG13.out.block b hb (fun e => by injection e with e; exact hx e)
          have hown13 : w13.ownsRow w9.heap.size 35 1 v gn9 cs := own_same HOW.out (fun g hg => hne g (by have := (HOW.out.lt g hg).1; omega) (HOW.out.lt g hg).2)
          have hrc13 : RowCK (fun b => w9.heap.size ≤ b) w13 cs (groupP V B L R) := (HRC.out.on (w' := w13) ⟨hG13.out.size, fun b hb hk => hne b (by have := hk.1; omega) hb⟩).mono (fun b _ hk => hk.1)
          obtain ⟨a3, c3, hvf, hrow3⟩ := own_rowsJ hown13 hrc13 HPL.out
          subst hvf
          have hU : TxtK (fun i => w.heap.size ≤ i) w13 ua (bn + ln) uc (B ++ aggNames L) := by
            have h1 := HU9.out.on (w' := w13) ⟨Nat.le_trans HSM.out.size hG13.out.size, fun b hb hk => by
              have hb2 : b < Wa.heap.size := Nat.lt_of_lt_of_le hb HSM.out.size
              refine (hne b (by have h1 := hk.1; have h2 := HB5.out.size; have h3 := HB56.out.size; have h4 := HE6S.out; omega) hb2).trans (HSM.out.block b hb (fun e => by injection e with e; have := hk.2; omega))⟩
            exact h1.mono (fun i _ hk => by have h1 := hk.1; have h2 := HB5.out.size; have h3 := HB56.out.size; omega)
          have q5 : w13.cell? ⟨A + 1, 0, none⟩ = some (.slice ua (bn + ln) uc) := (blk_cell hA13.out 0).trans rfl
          have q6 : w13.cell? ⟨A + 1, 1, none⟩ = some (.slice a3 gn9 c3) := (blk_cell hA13.out 1).trans rfl
          refine bodyPost_ret (v := .tuple #[.agg #[.slice ua (bn + ln) uc, .slice a3 gn9 c3], .int .i64 0]) (by simp [results, Tryz.results14, q5, q6, go_sem]) rfl ⟨_, rfl, ⟨ua, _, uc, a3, gn9, c3, rfl, hU, row_kk hrow3 (fun i hk => by have h1 := hk.1; have h2 := HB09.out.size; omega) (fun i hk => by have h2 := HB09.out.size; omega)⟩, hb13⟩

end Go.Proofs.YtdnfaoanaehjhaaGreatDoor
