/- May a table be grouped? Package group's Check, for every table (written by gen/mkcheck13.py). -/
import Derived.Test.YtdnfaoanaehjhaaGreatDoorH11
import Derived.Deep.RegionHeld3
namespace Go.Proofs.YtdnfaoanaehjhaaGreatDoor
open Go.RowKit Go.Maps Go.Shelf

theorem check1_calls (V : List (List UInt8)) (x : List UInt8) (hx : okS x) (G b : Nat) (W : World) (hG : W.cell? ⟨G, 0, none⟩ = some (.map (some b))) (hM : MapS W b (cntL V) (colF V)) :
    Calls Tryz.prog 29 #[.string (bs x), .pointer (some ⟨G, 0, none⟩)] W fun e w' => e = .returned (.bool (!strayB V x)) ∧ Below W.heap.size W w' := by
  have HM := Lib.hid hM
  have HOK := Lib.hid hx
  have HE := Lib.hid (show (!strayB V x) = (colF V x).isSome by unfold strayB; rw [colF_some]; by_cases h : x ∈ V <;> simp [h])
  clear hM hx
  go_enter Tryz.func29, Tryz.ntmps29
  go_wp2_with (at_lookup; refine wpList_look_g rfl _ _ 62 rfl keyS Tryz.underlying62 rfl HM.out x HOK.out rfl ?_; generalize (colF V x).isSome = q at HE ⊢; generalize (colF V x).getD 0 = q2)
  go_ret
  exact ⟨by rw [HE.out]; rfl, Below.refl _ _⟩
theorem check2_calls (V : List (List UInt8)) (x : List UInt8) (hx : okS x) (H G b : Nat) (W : World) (hH : W.cell? ⟨H, 0, none⟩ = some (.func (.func 29) #[] #[.pointer (some ⟨G, 0, none⟩)])) (hG : W.cell? ⟨G, 0, none⟩ = some (.map (some b))) (hM : MapS W b (cntL V) (colF V)) :
    Calls Tryz.prog 30 #[.string (bs x), .pointer (some ⟨H, 0, none⟩)] W fun e w' => e = .returned (.bool (strayB V x)) ∧ Below W.heap.size W w' := by
  have HC := Lib.hid (check1_calls V x hx G b W hG hM)
  have HE := Lib.hid (show (!!strayB V x) = strayB V x from Bool.not_not _)
  clear hM hx hG
  generalize strayB V x = q at HC HE ⊢
  go_enter Tryz.func30, Tryz.ntmps30
  go_wp2_with fail
  refine HC.out.mono ?_
  rintro e w1 ⟨rfl, hb1⟩
  have HB := Lib.hid hb1
  clear hb1
  go_wp2
  go_ret
  exact ⟨by cases q <;> rfl, HB.out⟩

theorem form_all {V B : List (List UInt8)} {R : List RowL} {L : List AggL} (h1 : rightT V R = true) : formG V B R L = (namesB [] B && (namesB [] (aggNames L) && !L.any fun a => !aggB a)) := by
  unfold formG
  rw [h1, all_any]
  rfl
theorem sub_len : ∀ {B V : List (List UInt8)}, B.Nodup → (∀ x ∈ B, x ∈ V) → B.length ≤ V.length
  | [], _, _, _ => Nat.zero_le _
  | x :: B, V, h, hs => by
    obtain ⟨h1, h2⟩ := List.nodup_cons.1 h
    have hx := hs x List.mem_cons_self
    have ih := sub_len (B := B) (V := V.erase x) h2 (fun y hy => (List.mem_erase_of_ne (fun e => h1 (by rw [← e]; exact hy))).2 (hs y (List.mem_cons_of_mem _ hy)))
    rw [List.length_erase_of_mem hx] at ih
    have := List.length_pos_of_mem hx
    rw [List.length_cons]
    omega
theorem by_len {V B : List (List UInt8)} (h1 : namesB [] B = true) (h2 : B.any (strayB V) = false) : B.length ≤ V.length := by
  rw [names_is, Bool.and_eq_true, decide_eq_true_eq] at h1
  refine sub_len h1.2 (fun x hx => ?_)
  have := List.any_eq_false.1 h2 x hx
  unfold strayB at this
  simpa using this
theorem check_form {V B : List (List UInt8)} {R : List RowL} {L : List AggL} (h : formG V B R L = false) : checkG V R B L = 2 := if_pos h
theorem check_scope {V B : List (List UInt8)} {R : List RowL} {L : List AggL} (h : formG V B R L = true) (h2 : scopeG V B L = false) : checkG V R B L = 6 := by unfold checkG; rw [if_neg (by rw [h]; simp), if_pos h2]
theorem check_long {V B : List (List UInt8)} {R : List RowL} {L : List AggL} (h : formG V B R L = true) (h2 : scopeG V B L = true) (h3 : 32 < B.length + L.length) : checkG V R B L = 3 := by unfold checkG; rw [if_neg (by rw [h]; simp), if_neg (by rw [h2]; simp), if_pos h3]
theorem check_ok {V B : List (List UInt8)} {R : List RowL} {L : List AggL} (h : formG V B R L = true) (h2 : scopeG V B L = true) (h3 : ¬ 32 < B.length + L.length) : checkG V R B L = 0 := by unfold checkG; rw [if_neg (by rw [h]; simp), if_neg (by rw [h2]; simp), if_neg h3]

set_option maxRecDepth 100000 in
set_option maxHeartbeats 8000000 in
theorem gCheck_calls (V : List (List UInt8)) (R : List RowL) (B : List (List UInt8)) (L : List AggL) (hx : okV V) (hr : okR R) (hB : okV B) (hL : ∀ g ∈ L, g.ok) (tv : Value) (ba : Option Addr) (bn bc : Nat) (la : Option Addr) (ln lc : Nat) (w : World) (ht : TabA w tv V R) (hb : TxtA w ba bn bc B) (hl : AgA w la ln lc L) (h6 : ln ≤ 1000000) :
    Calls Tryz.prog 11 #[tv, .slice ba bn bc, .slice la ln lc] w fun e w' => e = .returned (.int .i64 (checkG V R B L)) ∧ Below w.heap.size w w' := by
  obtain ⟨va, n, vc, ra, m, rc, rfl, hV, hR⟩ := ht
  have egW : ∀ args w, (callFunc 33 args).run Tryz.prog w = .ok (.enter 33 args) w := enters_of Tryz.func33 (by kernel_rfl) rfl
  have eg1 : ∀ args w, (callFunc 29 args).run Tryz.prog w = .ok (.enter 29 args) w := enters_of Tryz.func29 (by kernel_rfl) rfl
  have eg2 : ∀ args w, (callFunc 30 args).run Tryz.prog w = .ok (.enter 30 args) w := enters_of Tryz.func30 (by kernel_rfl) rfl
  have HGW := Lib.hid egW
  have HG1 := Lib.hid eg1
  have HG2 := Lib.hid eg2
  obtain ⟨A, hA⟩ : ∃ A, w.heap.size = A := ⟨_, rfl⟩
  obtain ⟨W0, hW0⟩ : ∃ W0, w.alloc (.cells #[.slice va n vc, .slice ra m rc] 25) = W0 := ⟨_, rfl⟩
  have HB0 := Lib.hid (show Below w.heap.size w W0 by rw [← hW0]; exact box_below _ _)
  have HA0 := Lib.hid (show Blk W0 A 25 #[.slice va n vc, .slice ra m rc] by rw [← hW0, ← hA]; exact blk_new _ _ _)
  have HV := Lib.hid hV
  have HBA := Lib.hid hb
  have HLA := Lib.hid hl
  have HXV := Lib.hid hx
  have HXB := Lib.hid hB
  have HXL := Lib.hid hL
  have HBL := Lib.hid hb.len
  have HLL := Lib.hid hl.len
  have hbc := hb.cap
  have hbm := hb.most
  unfold maxLen at hbm
  have HCK := Lib.hid (tCheck_calls V R hx hr (.agg #[.slice va n vc, .slice ra m rc]) W0 ⟨va, n, vc, ra, m, rc, rfl, hV.on HB0.out, hR.on HB0.out⟩)
  have HAE := Lib.hid hA
  have HW0 := Lib.hid hW0
  clear hA hW0 hV hR hx hr hB hL hb hl egW eg1 eg2
  cases hq : rightT V R with
  | false =>
    rw [hq, show formZ false = 2 from rfl] at HCK
    have HE := Lib.hid (check_form (V := V) (R := R) (B := B) (L := L) (by unfold formG; rw [hq]; rfl))
    clear hq
    go_enter Tryz.func11, Tryz.ntmps11
    go_wp2_with fail
    rw [HW0.out, HAE.out]
    refine (HCK.out).mono ?_
    rintro e w1 ⟨rfl, hb1⟩
    have HB1 := Lib.hid (fb2 HB0.out hb1 (Nat.le_refl _))
    clear hb1
    go_wp2
    go_ret
    exact ⟨by rw [HE.out]; rfl, HB1.out⟩
  | true =>
    rw [hq, show formZ true = 0 from rfl] at HCK
    have HFA := Lib.hid (form_all (B := B) (L := L) hq)
    have HV32 := Lib.hid (right_nodup hq).2.1
    clear hq
    go_enter Tryz.func11, Tryz.ntmps11
    go_wp2_with fail
    rw [HW0.out, HAE.out]
    refine (HCK.out).mono ?_
    rintro e w1 ⟨rfl, hb1⟩
    have HB1 := Lib.hid (fb2 HB0.out hb1 (Nat.le_refl _))
    have HA1 := Lib.hid (blk_on HA0.out hb1 (blk_lt HA0.out))
    have q0 : w1.cell? ⟨A, 0, none⟩ = some (.slice va n vc) := (blk_cell HA1.out 0).trans rfl
    have hlA := blk_lt HA1.out
    have HV1 := Lib.hid (HV.out.on HB1.out)
    have HBA1 := Lib.hid (HBA.out.on HB1.out)
    have HLA1 := Lib.hid (HLA.out.on HB1.out)
    clear hb1 HCK HW0 HA0 HB0 HV HBA HLA
    go_wp2_with fail
    refine wp_region_held_drew (S := (fun W => Below w1.heap.size w1 W)) (by kernel_rfl) ?_ (fun hHeld => ?_)
    · (try dsimp only); exact (Below.refl _ _).drew
    obtain ⟨Wd, hWd⟩ : ∃ Wd, w1.drew = Wd := ⟨_, rfl⟩
    rw [hWd] at hHeld ⊢
    have HBS := Lib.hid (show Below w1.heap.size w1 Wd by rw [← hWd]; exact (Below.refl _ _).drew)
    clear hWd
    refine wpAnyH_take (i := 0) (oi := ⟨some 17, _, _, _, _, _⟩) (v := ?_) rfl (by kernel_rfl) (by kernel_rfl) (by kernel_rfl) (fun _ _ _ h => h) (Or.inl ⟨by kernel_rfl, ?_⟩) (by assumption) ?_
    rotate_left
    · (intro ww hSw; (try dsimp only at hSw); go_simp); (try with_reducible rfl)
    (try simp only [Act.put, List.setIfInBounds_toArray, List.set_cons_zero, List.set_cons_succ])
    refine wpAnyH_take (i := 2) (oi := ⟨some 19, _, _, _, _, _⟩) (v := ?_) rfl (by kernel_rfl) (by kernel_rfl) (by kernel_rfl) (fun _ _ _ h => h) (Or.inl ⟨by kernel_rfl, ?_⟩) (by assumption) ?_
    rotate_left
    · (intro ww hSw; (try dsimp only at hSw); go_simp); (try with_reducible rfl)
    (try simp only [Act.put, List.setIfInBounds_toArray, List.set_cons_zero, List.set_cons_succ])
    refine wpAnyH_take (i := 3) (oi := ⟨some 20, _, _, _, _, _⟩) (v := ?_) rfl (by kernel_rfl) (by kernel_rfl) (by kernel_rfl) (fun _ _ _ h => h) (Or.inl ⟨by kernel_rfl, ?_⟩) (by assumption) ?_
    rotate_left
    · (intro ww hSw; (try dsimp only at hSw); have e0 := keptC q0 hSw hlA; go_simp); (try with_reducible rfl)
    (try simp only [Act.put, List.setIfInBounds_toArray, List.set_cons_zero, List.set_cons_succ])
    refine wpAnyH_ready (rs := [1, 5]) (by kernel_rfl) (by simp) ?_
    refine AllReadyH.cons rfl (fun K hK => ?_) (AllReadyH.cons rfl (fun K hK => ?_) AllReadyH.nil)
    · go_simp
      refine (namesOf_calls L la ln lc Wd (HLA1.out.on HBS.out) h6).mono ?_
      rintro e W100 ⟨g, rfl, hN, hb⟩
      have hbx : Below Wd.heap.size Wd W100 := hb
      clear hb
      have HN := Lib.hid hN
      clear hN
      replace HBS := Lib.hid (fb2 HBS.out hbx (Nat.le_refl _))
      clear hbx
      go_wp2_with fail
      refine hK.out _ _ ?_ (fun hHeld => ?_)
      · (try dsimp only); exact HBS.out
      clear hK K
      (try simp only [Act.put, List.setIfInBounds_toArray, List.set_cons_zero, List.set_cons_succ])
      refine wpAnyH_ready (rs := [4, 5]) (by kernel_rfl) (by simp) ?_
      refine AllReadyH.cons rfl (fun K hK => ?_) (AllReadyH.cons rfl (fun K hK => ?_) AllReadyH.nil)
      · go_simp
        refine (gcols_calls V HXV.out va n vc W100 (HV1.out.on HBS.out)).mono ?_
        rintro e W101 ⟨b, rfl, hbe, hM, hb⟩
        have hbx : Below W100.heap.size W100 W101 := hb
        clear hb
        have HM := Lib.hid hM
        clear hM hbe
        replace HN := Lib.hid (blk_on HN.out hbx (blk_lt HN.out))
        replace HBS := Lib.hid (fb2 HBS.out hbx (Nat.le_refl _))
        clear hbx
        go_wp2_with fail
        refine hK.out _ _ ?_ (fun hHeld => ?_)
        · (try dsimp only); exact HBS.out
        clear hK K
        (try simp only [Act.put, List.setIfInBounds_toArray, List.set_cons_zero, List.set_cons_succ])
        refine wpAnyH_ready (rs := [5]) (by kernel_rfl) (by simp) ?_
        refine AllReadyH.cons rfl (fun K hK => ?_) AllReadyH.nil
        go_simp
        obtain ⟨W102, hWn⟩ : ∃ W102, W101.alloc (.cells #[.map none] 62) = W102 := ⟨_, rfl⟩
        obtain ⟨G, hG⟩ : ∃ G, W101.heap.size = G := ⟨_, rfl⟩
        have HBG := Lib.hid (show Blk W102 G 62 #[.map none] by rw [← hWn, ← hG]; exact blk_new _ _ _)
        have hbx : Below W101.heap.size W101 W102 := by rw [← hWn]; exact box_below _ _
        have HGEG := Lib.hid (show W101.heap.size = G from hG)
        rw [hWn, hG]
        clear hWn hG
        replace HN := Lib.hid (blk_on HN.out hbx (blk_lt HN.out))
        replace HM := Lib.hid (HM.out.on hbx)
        replace HGEG := Lib.hid (show w1.heap.size ≤ G by have h1 := HBS.out.size; have h2 := HGEG.out; omega)
        replace HBS := Lib.hid (fb2 HBS.out hbx (Nat.le_refl _))
        clear hbx
        refine hK.out _ _ ?_ (fun hHeld => ?_)
        · (try dsimp only); exact HBS.out
        clear hK K
        (try simp only [Act.put, List.setIfInBounds_toArray, List.set_cons_zero, List.set_cons_succ])
        refine wpAnyH_take (i := 6) (oi := ⟨some 8, _, _, _, _, _⟩) (v := ?_) rfl (by kernel_rfl) (by kernel_rfl) (by kernel_rfl) (fun _ _ _ h => h) (Or.inl ⟨by kernel_rfl, ?_⟩) (by assumption) ?_
        rotate_left
        · (intro ww hSw; (try dsimp only at hSw); go_simp); (try with_reducible rfl)
        (try simp only [Act.put, List.setIfInBounds_toArray, List.set_cons_zero, List.set_cons_succ])
        refine wpAnyH_ready (rs := [7]) (by kernel_rfl) (by simp) ?_
        refine AllReadyH.cons rfl (fun K hK => ?_) AllReadyH.nil
        refine wp_one_abs 62 (.tmp 9) (.tmp 21) rfl G 0 (.map (some b)) rfl rfl rfl rfl 62 [.map none] HBG.out (by kernel_rfl) (by simp) ?_
        intro W103 hXs hgs
        replace HN := Lib.hid (blk_grown HN.out (blk_kinds HN.out HBG.out (by decide)) hgs)
        replace HM := Lib.hid (HM.out.kept hgs (fun e => map_cell HM.out ((blk_cell HBG.out 0).trans rfl) (Option.some.inj e).symm))
        replace HBS := Lib.hid (HBS.out.grown hgs HBS.out.size (fun j hj => by injection hj with hj; have := HGEG.out; omega))
        replace HBG := Lib.hid (show Blk W103 G 62 #[.map (some b)] from hXs)
        clear hXs hgs
        refine hK.out _ _ ?_ (fun hHeld => ?_)
        · (try dsimp only); exact HBS.out
        clear hK K
        (try simp only [Act.put, List.setIfInBounds_toArray])
        refine wpAnyH_done (by kernel_rfl) ?_ _
        obtain ⟨H, hH⟩ : ∃ H, W103.heap.size = H := ⟨_, rfl⟩
        go_wp2_with (refine one_abs 65 (.tmp 10) (.tmp 22) ⟨rfl, rfl⟩ H 0 (.func (.func 29) #[] #[.pointer (some ⟨G, 0, none⟩)]) rfl rfl rfl rfl 65 [.nilFunc] (by rw [← hH]; exact blk_new _ _ _) (by kernel_rfl) (by decide) ?_; intro Wz hHz hGz)
        have HBH := Lib.hid (show Blk Wz H 65 #[.func (.func 29) #[] #[.pointer (some ⟨G, 0, none⟩)]] from hHz.out)
        have HBQ := Lib.hid (show Below W103.heap.size W103 Wz from (box_below _ _).grown hGz.out (by simp) (fun j hj => by injection hj with hj; omega))
        have HBT := Lib.hid (fb2 (fb2 HB1.out HBS.out (Nat.le_refl _)) HBQ.out (Nat.le_refl _))
        have HNZ := Lib.hid (blk_on HN.out HBQ.out (blk_lt HN.out))
        have HMZ := Lib.hid (HM.out.on HBQ.out)
        have HGZ := Lib.hid (blk_on HBG.out HBQ.out (blk_lt HBG.out))
        have HTZ : Hid (TxtA Wz (some ⟨g, 0, none⟩) ln ln (aggNames L)) := Lib.hid (txtA_blk HNZ.out (by unfold aggNames; rw [List.length_map]; exact HLL.out) (by unfold maxLen; omega))
        have HBAZ := Lib.hid (HBA1.out.on (fb2 HBS.out HBQ.out (Nat.le_refl _)))
        have HLAZ := Lib.hid (HLA1.out.on (fb2 HBS.out HBQ.out (Nat.le_refl _)))
        have HBZ := Lib.hid (Below.refl Wz.heap.size Wz)
        have gG : Wz.cell? ⟨G, 0, none⟩ = some (.map (some b)) := (blk_cell HGZ.out 0).trans rfl
        have gH : Wz.cell? ⟨H, 0, none⟩ = some (.func (.func 29) #[] #[.pointer (some ⟨G, 0, none⟩)]) := (blk_cell HBH.out 0).trans rfl
        have hlG := blk_lt HGZ.out
        have hlH := blk_lt HBH.out
        have HC1 := Lib.hid (fun W (hb : Below Wz.heap.size Wz W) x hx => check1_calls V x hx G b W (keptC gG hb hlG) (HMZ.out.on hb))
        have HC2 := Lib.hid (fun W (hb : Below Wz.heap.size Wz W) x hx => check2_calls V x hx H G b W (keptC gH hb hlH) (keptC gG hb hlG) (HMZ.out.on hb))
        clear hH hHz hGz HN HM HBG HBS HBQ HBA1 HLA1 HV1 HA1 gG
        have HCC := Lib.hid (areNames_calls B HXB.out ba bn bc Wz HBAZ.out)
        cases p1 : namesB [] B with
        | false =>
          rw [p1] at HCC
          refine HCC.out.mono ?_
          clear HCC
          rintro e W201 ⟨rfl, hbk⟩
          replace HBT := Lib.hid (fb2 HBT.out hbk (Nat.le_refl _))
          replace HBZ := Lib.hid (fb2 HBZ.out hbk (Nat.le_refl _))
          clear hbk
          have HE := Lib.hid (check_form (V := V) (R := R) (B := B) (L := L) (by rw [HFA.out, p1]; simp))
          go_wp2
          go_ret
          exact ⟨by rw [HE.out]; rfl, HBT.out⟩
        | true =>
          rw [p1] at HCC
          refine HCC.out.mono ?_
          clear HCC
          rintro e W201 ⟨rfl, hbk⟩
          replace HBT := Lib.hid (fb2 HBT.out hbk (Nat.le_refl _))
          replace HBZ := Lib.hid (fb2 HBZ.out hbk (Nat.le_refl _))
          clear hbk
          have HCC := Lib.hid (areNames_calls (aggNames L) (names_ok HXL.out) (some ⟨g, 0, none⟩) ln ln W201 (HTZ.out.on HBZ.out))
          cases p2 : namesB [] (aggNames L) with
          | false =>
            rw [p2] at HCC
            go_wp2_with fail
            refine HCC.out.mono ?_
            clear HCC
            rintro e W202 ⟨rfl, hbk⟩
            replace HBT := Lib.hid (fb2 HBT.out hbk (Nat.le_refl _))
            replace HBZ := Lib.hid (fb2 HBZ.out hbk (Nat.le_refl _))
            clear hbk
            have HE := Lib.hid (check_form (V := V) (R := R) (B := B) (L := L) (by rw [HFA.out, p1, p2]; simp))
            go_wp2
            go_ret
            exact ⟨by rw [HE.out]; rfl, HBT.out⟩
          | true =>
            rw [p2] at HCC
            go_wp2_with fail
            refine HCC.out.mono ?_
            clear HCC
            rintro e W202 ⟨rfl, hbk⟩
            replace HBT := Lib.hid (fb2 HBT.out hbk (Nat.le_refl _))
            replace HBZ := Lib.hid (fb2 HBZ.out hbk (Nat.le_refl _))
            clear hbk
            have HCC := Lib.hid (hasG_calls L (fun a => !aggB a) 33 #[] HGW.out la ln lc W202 (HLAZ.out.on HBZ.out) (fun W j hj hbj => isWrong_calls L[j] (HXL.out _ (List.getElem_mem hj)).1 W))
            cases p3 : L.any fun a => !aggB a with
            | false =>
              rw [p3] at HCC
              go_wp2_with fail
              refine HCC.out.mono ?_
              clear HCC
              rintro e W203 ⟨rfl, hbk⟩
              replace HBT := Lib.hid (fb2 HBT.out hbk (Nat.le_refl _))
              replace HBZ := Lib.hid (fb2 HBZ.out hbk (Nat.le_refl _))
              clear hbk
              have HCC := Lib.hid (hasS_calls B (strayB V) 30 #[.pointer (some ⟨H, 0, none⟩)] HG2.out ba bn bc W203 (HBAZ.out.on HBZ.out) (fun W j hj hbj => HC2.out W (fb2 HBZ.out hbj (Nat.le_refl _)) _ (HXB.out _ (List.getElem_mem hj))))
              cases s1 : B.any (strayB V) with
              | false =>
                rw [s1] at HCC
                go_wp2_with fail
                refine HCC.out.mono ?_
                clear HCC
                rintro e W204 ⟨rfl, hbk⟩
                replace HBT := Lib.hid (fb2 HBT.out hbk (Nat.le_refl _))
                replace HBZ := Lib.hid (fb2 HBZ.out hbk (Nat.le_refl _))
                clear hbk
                go_wp2_with fail
                refine (oversOf_calls L la ln lc W204 (HLAZ.out.on HBZ.out) h6).mono ?_
                rintro e W205 ⟨oa, oq, oc, rfl, hTO, hbk⟩
                have HTO := Lib.hid hTO
                replace HBT := Lib.hid (fb2 HBT.out hbk (Nat.le_refl _))
                replace HBZ := Lib.hid (fb2 HBZ.out hbk (Nat.le_refl _))
                clear hbk hTO
                have HCC := Lib.hid (hasS_calls (oversL L) (strayB V) 30 #[.pointer (some ⟨H, 0, none⟩)] HG2.out oa oq oc W205 HTO.out (fun W j hj hbj => HC2.out W (fb2 HBZ.out hbj (Nat.le_refl _)) _ (overs_ok HXL.out _ (List.getElem_mem hj))))
                cases s2 : (oversL L).any (strayB V) with
                | false =>
                  rw [s2] at HCC
                  go_wp2_with fail
                  refine HCC.out.mono ?_
                  clear HCC
                  rintro e W206 ⟨rfl, hbk⟩
                  replace HBT := Lib.hid (fb2 HBT.out hbk (Nat.le_refl _))
                  replace HBZ := Lib.hid (fb2 HBZ.out hbk (Nat.le_refl _))
                  clear hbk
                  have gH6 := keptC gH HBZ.out hlH
                  have HCC := Lib.hid (hasS_calls (aggNames L) (fun x => !strayB V x) 29 #[.pointer (some ⟨G, 0, none⟩)] HG1.out (some ⟨g, 0, none⟩) ln ln W206 (HTZ.out.on HBZ.out) (fun W j hj hbj => HC1.out W (fb2 HBZ.out hbj (Nat.le_refl _)) _ (names_ok HXL.out _ (List.getElem_mem hj))))
                  cases s3 : (aggNames L).any fun x => !strayB V x with
                  | false =>
                    rw [s3] at HCC
                    go_wp2_with fail
                    refine HCC.out.mono ?_
                    clear HCC
                    rintro e W207 ⟨rfl, hbk⟩
                    replace HBT := Lib.hid (fb2 HBT.out hbk (Nat.le_refl _))
                    replace HBZ := Lib.hid (fb2 HBZ.out hbk (Nat.le_refl _))
                    clear hbk
                    have hbn : bn ≤ 32 := by have h1 := by_len p1 s1; have h2 := HV32.out; have h3 := HBL.out; omega
                    by_cases h32 : 32 < bn + ln
                    · have HE := Lib.hid (check_long (V := V) (R := R) (B := B) (L := L) (by rw [HFA.out, p1, p2, p3]; rfl) (by unfold scopeG; rw [s1, s2, s3]; rfl) (by rw [HBL.out, HLL.out]; exact h32))
                      have g32 : (32 : Int) < (bn : Int) + (ln : Int) := by omega
                      have gw : IntKind.i64.wrap ((bn : Int) + (ln : Int)) = (bn : Int) + (ln : Int) := by rw [IntKind.wrap_i64]; omega
                      go_wp2
                      go_ret
                      exact ⟨by rw [HE.out]; rfl, HBT.out⟩
                    · have HE := Lib.hid (check_ok (V := V) (R := R) (B := B) (L := L) (by rw [HFA.out, p1, p2, p3]; rfl) (by unfold scopeG; rw [s1, s2, s3]; rfl) (by rw [HBL.out, HLL.out]; exact h32))
                      have g32 : ¬ (32 : Int) < (bn : Int) + (ln : Int) := by omega
                      have gw : IntKind.i64.wrap ((bn : Int) + (ln : Int)) = (bn : Int) + (ln : Int) := by rw [IntKind.wrap_i64]; omega
                      go_wp2
                      go_ret
                      exact ⟨by rw [HE.out]; rfl, HBT.out⟩
                  | true =>
                    rw [s3] at HCC
                    go_wp2_with fail
                    refine HCC.out.mono ?_
                    clear HCC
                    rintro e W207 ⟨rfl, hbk⟩
                    replace HBT := Lib.hid (fb2 HBT.out hbk (Nat.le_refl _))
                    replace HBZ := Lib.hid (fb2 HBZ.out hbk (Nat.le_refl _))
                    clear hbk
                    have HE := Lib.hid (check_scope (V := V) (R := R) (B := B) (L := L) (by rw [HFA.out, p1, p2, p3]; rfl) (by unfold scopeG; rw [s1, s2, s3]; simp))
                    go_wp2
                    go_ret
                    exact ⟨by rw [HE.out]; rfl, HBT.out⟩
                | true =>
                  rw [s2] at HCC
                  go_wp2_with fail
                  refine HCC.out.mono ?_
                  clear HCC
                  rintro e W206 ⟨rfl, hbk⟩
                  replace HBT := Lib.hid (fb2 HBT.out hbk (Nat.le_refl _))
                  replace HBZ := Lib.hid (fb2 HBZ.out hbk (Nat.le_refl _))
                  clear hbk
                  have HE := Lib.hid (check_scope (V := V) (R := R) (B := B) (L := L) (by rw [HFA.out, p1, p2, p3]; rfl) (by unfold scopeG; rw [s1, s2]; simp))
                  go_wp2
                  go_ret
                  exact ⟨by rw [HE.out]; rfl, HBT.out⟩
              | true =>
                rw [s1] at HCC
                go_wp2_with fail
                refine HCC.out.mono ?_
                clear HCC
                rintro e W204 ⟨rfl, hbk⟩
                replace HBT := Lib.hid (fb2 HBT.out hbk (Nat.le_refl _))
                replace HBZ := Lib.hid (fb2 HBZ.out hbk (Nat.le_refl _))
                clear hbk
                have HE := Lib.hid (check_scope (V := V) (R := R) (B := B) (L := L) (by rw [HFA.out, p1, p2, p3]; rfl) (by unfold scopeG; rw [s1]; simp))
                go_wp2
                go_ret
                exact ⟨by rw [HE.out]; rfl, HBT.out⟩
            | true =>
              rw [p3] at HCC
              go_wp2_with fail
              refine HCC.out.mono ?_
              clear HCC
              rintro e W203 ⟨rfl, hbk⟩
              replace HBT := Lib.hid (fb2 HBT.out hbk (Nat.le_refl _))
              replace HBZ := Lib.hid (fb2 HBZ.out hbk (Nat.le_refl _))
              clear hbk
              have HE := Lib.hid (check_form (V := V) (R := R) (B := B) (L := L) (by rw [HFA.out, p1, p2, p3]; simp))
              go_wp2
              go_ret
              exact ⟨by rw [HE.out]; rfl, HBT.out⟩
      · go_simp
        obtain ⟨W101, hWn⟩ : ∃ W101, W100.alloc (.cells #[.map none] 62) = W101 := ⟨_, rfl⟩
        obtain ⟨G, hG⟩ : ∃ G, W100.heap.size = G := ⟨_, rfl⟩
        have HBG := Lib.hid (show Blk W101 G 62 #[.map none] by rw [← hWn, ← hG]; exact blk_new _ _ _)
        have hbx : Below W100.heap.size W100 W101 := by rw [← hWn]; exact box_below _ _
        have HGEG := Lib.hid (show W100.heap.size = G from hG)
        rw [hWn, hG]
        clear hWn hG
        replace HN := Lib.hid (blk_on HN.out hbx (blk_lt HN.out))
        replace HGEG := Lib.hid (show w1.heap.size ≤ G by have h1 := HBS.out.size; have h2 := HGEG.out; omega)
        replace HBS := Lib.hid (fb2 HBS.out hbx (Nat.le_refl _))
        clear hbx
        refine hK.out _ _ ?_ (fun hHeld => ?_)
        · (try dsimp only); exact HBS.out
        clear hK K
        (try simp only [Act.put, List.setIfInBounds_toArray, List.set_cons_zero, List.set_cons_succ])
        refine wpAnyH_ready (rs := [4]) (by kernel_rfl) (by simp) ?_
        refine AllReadyH.cons rfl (fun K hK => ?_) AllReadyH.nil
        go_simp
        refine (gcols_calls V HXV.out va n vc W101 (HV1.out.on HBS.out)).mono ?_
        rintro e W102 ⟨b, rfl, hbe, hM, hb⟩
        have hbx : Below W101.heap.size W101 W102 := hb
        clear hb
        have HM := Lib.hid hM
        clear hM hbe
        replace HN := Lib.hid (blk_on HN.out hbx (blk_lt HN.out))
        replace HBG := Lib.hid (blk_on HBG.out hbx (blk_lt HBG.out))
        replace HBS := Lib.hid (fb2 HBS.out hbx (Nat.le_refl _))
        clear hbx
        go_wp2_with fail
        refine hK.out _ _ ?_ (fun hHeld => ?_)
        · (try dsimp only); exact HBS.out
        clear hK K
        (try simp only [Act.put, List.setIfInBounds_toArray, List.set_cons_zero, List.set_cons_succ])
        refine wpAnyH_take (i := 6) (oi := ⟨some 8, _, _, _, _, _⟩) (v := ?_) rfl (by kernel_rfl) (by kernel_rfl) (by kernel_rfl) (fun _ _ _ h => h) (Or.inl ⟨by kernel_rfl, ?_⟩) (by assumption) ?_
        rotate_left
        · (intro ww hSw; (try dsimp only at hSw); go_simp); (try with_reducible rfl)
        (try simp only [Act.put, List.setIfInBounds_toArray, List.set_cons_zero, List.set_cons_succ])
        refine wpAnyH_ready (rs := [7]) (by kernel_rfl) (by simp) ?_
        refine AllReadyH.cons rfl (fun K hK => ?_) AllReadyH.nil
        refine wp_one_abs 62 (.tmp 9) (.tmp 21) rfl G 0 (.map (some b)) rfl rfl rfl rfl 62 [.map none] HBG.out (by kernel_rfl) (by simp) ?_
        intro W103 hXs hgs
        replace HN := Lib.hid (blk_grown HN.out (blk_kinds HN.out HBG.out (by decide)) hgs)
        replace HM := Lib.hid (HM.out.kept hgs (fun e => map_cell HM.out ((blk_cell HBG.out 0).trans rfl) (Option.some.inj e).symm))
        replace HBS := Lib.hid (HBS.out.grown hgs HBS.out.size (fun j hj => by injection hj with hj; have := HGEG.out; omega))
        replace HBG := Lib.hid (show Blk W103 G 62 #[.map (some b)] from hXs)
        clear hXs hgs
        refine hK.out _ _ ?_ (fun hHeld => ?_)
        · (try dsimp only); exact HBS.out
        clear hK K
        (try simp only [Act.put, List.setIfInBounds_toArray])
        refine wpAnyH_done (by kernel_rfl) ?_ _
        obtain ⟨H, hH⟩ : ∃ H, W103.heap.size = H := ⟨_, rfl⟩
        go_wp2_with (refine one_abs 65 (.tmp 10) (.tmp 22) ⟨rfl, rfl⟩ H 0 (.func (.func 29) #[] #[.pointer (some ⟨G, 0, none⟩)]) rfl rfl rfl rfl 65 [.nilFunc] (by rw [← hH]; exact blk_new _ _ _) (by kernel_rfl) (by decide) ?_; intro Wz hHz hGz)
        have HBH := Lib.hid (show Blk Wz H 65 #[.func (.func 29) #[] #[.pointer (some ⟨G, 0, none⟩)]] from hHz.out)
        have HBQ := Lib.hid (show Below W103.heap.size W103 Wz from (box_below _ _).grown hGz.out (by simp) (fun j hj => by injection hj with hj; omega))
        have HBT := Lib.hid (fb2 (fb2 HB1.out HBS.out (Nat.le_refl _)) HBQ.out (Nat.le_refl _))
        have HNZ := Lib.hid (blk_on HN.out HBQ.out (blk_lt HN.out))
        have HMZ := Lib.hid (HM.out.on HBQ.out)
        have HGZ := Lib.hid (blk_on HBG.out HBQ.out (blk_lt HBG.out))
        have HTZ : Hid (TxtA Wz (some ⟨g, 0, none⟩) ln ln (aggNames L)) := Lib.hid (txtA_blk HNZ.out (by unfold aggNames; rw [List.length_map]; exact HLL.out) (by unfold maxLen; omega))
        have HBAZ := Lib.hid (HBA1.out.on (fb2 HBS.out HBQ.out (Nat.le_refl _)))
        have HLAZ := Lib.hid (HLA1.out.on (fb2 HBS.out HBQ.out (Nat.le_refl _)))
        have HBZ := Lib.hid (Below.refl Wz.heap.size Wz)
        have gG : Wz.cell? ⟨G, 0, none⟩ = some (.map (some b)) := (blk_cell HGZ.out 0).trans rfl
        have gH : Wz.cell? ⟨H, 0, none⟩ = some (.func (.func 29) #[] #[.pointer (some ⟨G, 0, none⟩)]) := (blk_cell HBH.out 0).trans rfl
        have hlG := blk_lt HGZ.out
        have hlH := blk_lt HBH.out
        have HC1 := Lib.hid (fun W (hb : Below Wz.heap.size Wz W) x hx => check1_calls V x hx G b W (keptC gG hb hlG) (HMZ.out.on hb))
        have HC2 := Lib.hid (fun W (hb : Below Wz.heap.size Wz W) x hx => check2_calls V x hx H G b W (keptC gH hb hlH) (keptC gG hb hlG) (HMZ.out.on hb))
        clear hH hHz hGz HN HM HBG HBS HBQ HBA1 HLA1 HV1 HA1 gG
        have HCC := Lib.hid (areNames_calls B HXB.out ba bn bc Wz HBAZ.out)
        cases p1 : namesB [] B with
        | false =>
          rw [p1] at HCC
          refine HCC.out.mono ?_
          clear HCC
          rintro e W201 ⟨rfl, hbk⟩
          replace HBT := Lib.hid (fb2 HBT.out hbk (Nat.le_refl _))
          replace HBZ := Lib.hid (fb2 HBZ.out hbk (Nat.le_refl _))
          clear hbk
          have HE := Lib.hid (check_form (V := V) (R := R) (B := B) (L := L) (by rw [HFA.out, p1]; simp))
          go_wp2
          go_ret
          exact ⟨by rw [HE.out]; rfl, HBT.out⟩
        | true =>
          rw [p1] at HCC
          refine HCC.out.mono ?_
          clear HCC
          rintro e W201 ⟨rfl, hbk⟩
          replace HBT := Lib.hid (fb2 HBT.out hbk (Nat.le_refl _))
          replace HBZ := Lib.hid (fb2 HBZ.out hbk (Nat.le_refl _))
          clear hbk
          have HCC := Lib.hid (areNames_calls (aggNames L) (names_ok HXL.out) (some ⟨g, 0, none⟩) ln ln W201 (HTZ.out.on HBZ.out))
          cases p2 : namesB [] (aggNames L) with
          | false =>
            rw [p2] at HCC
            go_wp2_with fail
            refine HCC.out.mono ?_
            clear HCC
            rintro e W202 ⟨rfl, hbk⟩
            replace HBT := Lib.hid (fb2 HBT.out hbk (Nat.le_refl _))
            replace HBZ := Lib.hid (fb2 HBZ.out hbk (Nat.le_refl _))
            clear hbk
            have HE := Lib.hid (check_form (V := V) (R := R) (B := B) (L := L) (by rw [HFA.out, p1, p2]; simp))
            go_wp2
            go_ret
            exact ⟨by rw [HE.out]; rfl, HBT.out⟩
          | true =>
            rw [p2] at HCC
            go_wp2_with fail
            refine HCC.out.mono ?_
            clear HCC
            rintro e W202 ⟨rfl, hbk⟩
            replace HBT := Lib.hid (fb2 HBT.out hbk (Nat.le_refl _))
            replace HBZ := Lib.hid (fb2 HBZ.out hbk (Nat.le_refl _))
            clear hbk
            have HCC := Lib.hid (hasG_calls L (fun a => !aggB a) 33 #[] HGW.out la ln lc W202 (HLAZ.out.on HBZ.out) (fun W j hj hbj => isWrong_calls L[j] (HXL.out _ (List.getElem_mem hj)).1 W))
            cases p3 : L.any fun a => !aggB a with
            | false =>
              rw [p3] at HCC
              go_wp2_with fail
              refine HCC.out.mono ?_
              clear HCC
              rintro e W203 ⟨rfl, hbk⟩
              replace HBT := Lib.hid (fb2 HBT.out hbk (Nat.le_refl _))
              replace HBZ := Lib.hid (fb2 HBZ.out hbk (Nat.le_refl _))
              clear hbk
              have HCC := Lib.hid (hasS_calls B (strayB V) 30 #[.pointer (some ⟨H, 0, none⟩)] HG2.out ba bn bc W203 (HBAZ.out.on HBZ.out) (fun W j hj hbj => HC2.out W (fb2 HBZ.out hbj (Nat.le_refl _)) _ (HXB.out _ (List.getElem_mem hj))))
              cases s1 : B.any (strayB V) with
              | false =>
                rw [s1] at HCC
                go_wp2_with fail
                refine HCC.out.mono ?_
                clear HCC
                rintro e W204 ⟨rfl, hbk⟩
                replace HBT := Lib.hid (fb2 HBT.out hbk (Nat.le_refl _))
                replace HBZ := Lib.hid (fb2 HBZ.out hbk (Nat.le_refl _))
                clear hbk
                go_wp2_with fail
                refine (oversOf_calls L la ln lc W204 (HLAZ.out.on HBZ.out) h6).mono ?_
                rintro e W205 ⟨oa, oq, oc, rfl, hTO, hbk⟩
                have HTO := Lib.hid hTO
                replace HBT := Lib.hid (fb2 HBT.out hbk (Nat.le_refl _))
                replace HBZ := Lib.hid (fb2 HBZ.out hbk (Nat.le_refl _))
                clear hbk hTO
                have HCC := Lib.hid (hasS_calls (oversL L) (strayB V) 30 #[.pointer (some ⟨H, 0, none⟩)] HG2.out oa oq oc W205 HTO.out (fun W j hj hbj => HC2.out W (fb2 HBZ.out hbj (Nat.le_refl _)) _ (overs_ok HXL.out _ (List.getElem_mem hj))))
                cases s2 : (oversL L).any (strayB V) with
                | false =>
                  rw [s2] at HCC
                  go_wp2_with fail
                  refine HCC.out.mono ?_
                  clear HCC
                  rintro e W206 ⟨rfl, hbk⟩
                  replace HBT := Lib.hid (fb2 HBT.out hbk (Nat.le_refl _))
                  replace HBZ := Lib.hid (fb2 HBZ.out hbk (Nat.le_refl _))
                  clear hbk
                  have gH6 := keptC gH HBZ.out hlH
                  have HCC := Lib.hid (hasS_calls (aggNames L) (fun x => !strayB V x) 29 #[.pointer (some ⟨G, 0, none⟩)] HG1.out (some ⟨g, 0, none⟩) ln ln W206 (HTZ.out.on HBZ.out) (fun W j hj hbj => HC1.out W (fb2 HBZ.out hbj (Nat.le_refl _)) _ (names_ok HXL.out _ (List.getElem_mem hj))))
                  cases s3 : (aggNames L).any fun x => !strayB V x with
                  | false =>
                    rw [s3] at HCC
                    go_wp2_with fail
                    refine HCC.out.mono ?_
                    clear HCC
                    rintro e W207 ⟨rfl, hbk⟩
                    replace HBT := Lib.hid (fb2 HBT.out hbk (Nat.le_refl _))
                    replace HBZ := Lib.hid (fb2 HBZ.out hbk (Nat.le_refl _))
                    clear hbk
                    have hbn : bn ≤ 32 := by have h1 := by_len p1 s1; have h2 := HV32.out; have h3 := HBL.out; omega
                    by_cases h32 : 32 < bn + ln
                    · have HE := Lib.hid (check_long (V := V) (R := R) (B := B) (L := L) (by rw [HFA.out, p1, p2, p3]; rfl) (by unfold scopeG; rw [s1, s2, s3]; rfl) (by rw [HBL.out, HLL.out]; exact h32))
                      have g32 : (32 : Int) < (bn : Int) + (ln : Int) := by omega
                      have gw : IntKind.i64.wrap ((bn : Int) + (ln : Int)) = (bn : Int) + (ln : Int) := by rw [IntKind.wrap_i64]; omega
                      go_wp2
                      go_ret
                      exact ⟨by rw [HE.out]; rfl, HBT.out⟩
                    · have HE := Lib.hid (check_ok (V := V) (R := R) (B := B) (L := L) (by rw [HFA.out, p1, p2, p3]; rfl) (by unfold scopeG; rw [s1, s2, s3]; rfl) (by rw [HBL.out, HLL.out]; exact h32))
                      have g32 : ¬ (32 : Int) < (bn : Int) + (ln : Int) := by omega
                      have gw : IntKind.i64.wrap ((bn : Int) + (ln : Int)) = (bn : Int) + (ln : Int) := by rw [IntKind.wrap_i64]; omega
                      go_wp2
                      go_ret
                      exact ⟨by rw [HE.out]; rfl, HBT.out⟩
                  | true =>
                    rw [s3] at HCC
                    go_wp2_with fail
                    refine HCC.out.mono ?_
                    clear HCC
                    rintro e W207 ⟨rfl, hbk⟩
                    replace HBT := Lib.hid (fb2 HBT.out hbk (Nat.le_refl _))
                    replace HBZ := Lib.hid (fb2 HBZ.out hbk (Nat.le_refl _))
                    clear hbk
                    have HE := Lib.hid (check_scope (V := V) (R := R) (B := B) (L := L) (by rw [HFA.out, p1, p2, p3]; rfl) (by unfold scopeG; rw [s1, s2, s3]; simp))
                    go_wp2
                    go_ret
                    exact ⟨by rw [HE.out]; rfl, HBT.out⟩
                | true =>
                  rw [s2] at HCC
                  go_wp2_with fail
                  refine HCC.out.mono ?_
                  clear HCC
                  rintro e W206 ⟨rfl, hbk⟩
                  replace HBT := Lib.hid (fb2 HBT.out hbk (Nat.le_refl _))
                  replace HBZ := Lib.hid (fb2 HBZ.out hbk (Nat.le_refl _))
                  clear hbk
                  have HE := Lib.hid (check_scope (V := V) (R := R) (B := B) (L := L) (by rw [HFA.out, p1, p2, p3]; rfl) (by unfold scopeG; rw [s1, s2]; simp))
                  go_wp2
                  go_ret
                  exact ⟨by rw [HE.out]; rfl, HBT.out⟩
              | true =>
                rw [s1] at HCC
                go_wp2_with fail
                refine HCC.out.mono ?_
                clear HCC
                rintro e W204 ⟨rfl, hbk⟩
                replace HBT := Lib.hid (fb2 HBT.out hbk (Nat.le_refl _))
                replace HBZ := Lib.hid (fb2 HBZ.out hbk (Nat.le_refl _))
                clear hbk
                have HE := Lib.hid (check_scope (V := V) (R := R) (B := B) (L := L) (by rw [HFA.out, p1, p2, p3]; rfl) (by unfold scopeG; rw [s1]; simp))
                go_wp2
                go_ret
                exact ⟨by rw [HE.out]; rfl, HBT.out⟩
            | true =>
              rw [p3] at HCC
              go_wp2_with fail
              refine HCC.out.mono ?_
              clear HCC
              rintro e W203 ⟨rfl, hbk⟩
              replace HBT := Lib.hid (fb2 HBT.out hbk (Nat.le_refl _))
              replace HBZ := Lib.hid (fb2 HBZ.out hbk (Nat.le_refl _))
              clear hbk
              have HE := Lib.hid (check_form (V := V) (R := R) (B := B) (L := L) (by rw [HFA.out, p1, p2, p3]; simp))
              go_wp2
              go_ret
              exact ⟨by rw [HE.out]; rfl, HBT.out⟩
    · go_simp
      obtain ⟨W100, hWn⟩ : ∃ W100, Wd.alloc (.cells #[.map none] 62) = W100 := ⟨_, rfl⟩
      obtain ⟨G, hG⟩ : ∃ G, Wd.heap.size = G := ⟨_, rfl⟩
      have HBG := Lib.hid (show Blk W100 G 62 #[.map none] by rw [← hWn, ← hG]; exact blk_new _ _ _)
      have hbx : Below Wd.heap.size Wd W100 := by rw [← hWn]; exact box_below _ _
      have HGEG := Lib.hid (show Wd.heap.size = G from hG)
      rw [hWn, hG]
      clear hWn hG
      replace HGEG := Lib.hid (show w1.heap.size ≤ G by have h1 := HBS.out.size; have h2 := HGEG.out; omega)
      replace HBS := Lib.hid (fb2 HBS.out hbx (Nat.le_refl _))
      clear hbx
      refine hK.out _ _ ?_ (fun hHeld => ?_)
      · (try dsimp only); exact HBS.out
      clear hK K
      (try simp only [Act.put, List.setIfInBounds_toArray, List.set_cons_zero, List.set_cons_succ])
      refine wpAnyH_ready (rs := [1]) (by kernel_rfl) (by simp) ?_
      refine AllReadyH.cons rfl (fun K hK => ?_) AllReadyH.nil
      go_simp
      refine (namesOf_calls L la ln lc W100 (HLA1.out.on HBS.out) h6).mono ?_
      rintro e W101 ⟨g, rfl, hN, hb⟩
      have hbx : Below W100.heap.size W100 W101 := hb
      clear hb
      have HN := Lib.hid hN
      clear hN
      replace HBG := Lib.hid (blk_on HBG.out hbx (blk_lt HBG.out))
      replace HBS := Lib.hid (fb2 HBS.out hbx (Nat.le_refl _))
      clear hbx
      go_wp2_with fail
      refine hK.out _ _ ?_ (fun hHeld => ?_)
      · (try dsimp only); exact HBS.out
      clear hK K
      (try simp only [Act.put, List.setIfInBounds_toArray, List.set_cons_zero, List.set_cons_succ])
      refine wpAnyH_ready (rs := [4]) (by kernel_rfl) (by simp) ?_
      refine AllReadyH.cons rfl (fun K hK => ?_) AllReadyH.nil
      go_simp
      refine (gcols_calls V HXV.out va n vc W101 (HV1.out.on HBS.out)).mono ?_
      rintro e W102 ⟨b, rfl, hbe, hM, hb⟩
      have hbx : Below W101.heap.size W101 W102 := hb
      clear hb
      have HM := Lib.hid hM
      clear hM hbe
      replace HBG := Lib.hid (blk_on HBG.out hbx (blk_lt HBG.out))
      replace HN := Lib.hid (blk_on HN.out hbx (blk_lt HN.out))
      replace HBS := Lib.hid (fb2 HBS.out hbx (Nat.le_refl _))
      clear hbx
      go_wp2_with fail
      refine hK.out _ _ ?_ (fun hHeld => ?_)
      · (try dsimp only); exact HBS.out
      clear hK K
      (try simp only [Act.put, List.setIfInBounds_toArray, List.set_cons_zero, List.set_cons_succ])
      refine wpAnyH_take (i := 6) (oi := ⟨some 8, _, _, _, _, _⟩) (v := ?_) rfl (by kernel_rfl) (by kernel_rfl) (by kernel_rfl) (fun _ _ _ h => h) (Or.inl ⟨by kernel_rfl, ?_⟩) (by assumption) ?_
      rotate_left
      · (intro ww hSw; (try dsimp only at hSw); go_simp); (try with_reducible rfl)
      (try simp only [Act.put, List.setIfInBounds_toArray, List.set_cons_zero, List.set_cons_succ])
      refine wpAnyH_ready (rs := [7]) (by kernel_rfl) (by simp) ?_
      refine AllReadyH.cons rfl (fun K hK => ?_) AllReadyH.nil
      refine wp_one_abs 62 (.tmp 9) (.tmp 21) rfl G 0 (.map (some b)) rfl rfl rfl rfl 62 [.map none] HBG.out (by kernel_rfl) (by simp) ?_
      intro W103 hXs hgs
      replace HN := Lib.hid (blk_grown HN.out (blk_kinds HN.out HBG.out (by decide)) hgs)
      replace HM := Lib.hid (HM.out.kept hgs (fun e => map_cell HM.out ((blk_cell HBG.out 0).trans rfl) (Option.some.inj e).symm))
      replace HBS := Lib.hid (HBS.out.grown hgs HBS.out.size (fun j hj => by injection hj with hj; have := HGEG.out; omega))
      replace HBG := Lib.hid (show Blk W103 G 62 #[.map (some b)] from hXs)
      clear hXs hgs
      refine hK.out _ _ ?_ (fun hHeld => ?_)
      · (try dsimp only); exact HBS.out
      clear hK K
      (try simp only [Act.put, List.setIfInBounds_toArray])
      refine wpAnyH_done (by kernel_rfl) ?_ _
      obtain ⟨H, hH⟩ : ∃ H, W103.heap.size = H := ⟨_, rfl⟩
      go_wp2_with (refine one_abs 65 (.tmp 10) (.tmp 22) ⟨rfl, rfl⟩ H 0 (.func (.func 29) #[] #[.pointer (some ⟨G, 0, none⟩)]) rfl rfl rfl rfl 65 [.nilFunc] (by rw [← hH]; exact blk_new _ _ _) (by kernel_rfl) (by decide) ?_; intro Wz hHz hGz)
      have HBH := Lib.hid (show Blk Wz H 65 #[.func (.func 29) #[] #[.pointer (some ⟨G, 0, none⟩)]] from hHz.out)
      have HBQ := Lib.hid (show Below W103.heap.size W103 Wz from (box_below _ _).grown hGz.out (by simp) (fun j hj => by injection hj with hj; omega))
      have HBT := Lib.hid (fb2 (fb2 HB1.out HBS.out (Nat.le_refl _)) HBQ.out (Nat.le_refl _))
      have HNZ := Lib.hid (blk_on HN.out HBQ.out (blk_lt HN.out))
      have HMZ := Lib.hid (HM.out.on HBQ.out)
      have HGZ := Lib.hid (blk_on HBG.out HBQ.out (blk_lt HBG.out))
      have HTZ : Hid (TxtA Wz (some ⟨g, 0, none⟩) ln ln (aggNames L)) := Lib.hid (txtA_blk HNZ.out (by unfold aggNames; rw [List.length_map]; exact HLL.out) (by unfold maxLen; omega))
      have HBAZ := Lib.hid (HBA1.out.on (fb2 HBS.out HBQ.out (Nat.le_refl _)))
      have HLAZ := Lib.hid (HLA1.out.on (fb2 HBS.out HBQ.out (Nat.le_refl _)))
      have HBZ := Lib.hid (Below.refl Wz.heap.size Wz)
      have gG : Wz.cell? ⟨G, 0, none⟩ = some (.map (some b)) := (blk_cell HGZ.out 0).trans rfl
      have gH : Wz.cell? ⟨H, 0, none⟩ = some (.func (.func 29) #[] #[.pointer (some ⟨G, 0, none⟩)]) := (blk_cell HBH.out 0).trans rfl
      have hlG := blk_lt HGZ.out
      have hlH := blk_lt HBH.out
      have HC1 := Lib.hid (fun W (hb : Below Wz.heap.size Wz W) x hx => check1_calls V x hx G b W (keptC gG hb hlG) (HMZ.out.on hb))
      have HC2 := Lib.hid (fun W (hb : Below Wz.heap.size Wz W) x hx => check2_calls V x hx H G b W (keptC gH hb hlH) (keptC gG hb hlG) (HMZ.out.on hb))
      clear hH hHz hGz HN HM HBG HBS HBQ HBA1 HLA1 HV1 HA1 gG
      have HCC := Lib.hid (areNames_calls B HXB.out ba bn bc Wz HBAZ.out)
      cases p1 : namesB [] B with
      | false =>
        rw [p1] at HCC
        refine HCC.out.mono ?_
        clear HCC
        rintro e W201 ⟨rfl, hbk⟩
        replace HBT := Lib.hid (fb2 HBT.out hbk (Nat.le_refl _))
        replace HBZ := Lib.hid (fb2 HBZ.out hbk (Nat.le_refl _))
        clear hbk
        have HE := Lib.hid (check_form (V := V) (R := R) (B := B) (L := L) (by rw [HFA.out, p1]; simp))
        go_wp2
        go_ret
        exact ⟨by rw [HE.out]; rfl, HBT.out⟩
      | true =>
        rw [p1] at HCC
        refine HCC.out.mono ?_
        clear HCC
        rintro e W201 ⟨rfl, hbk⟩
        replace HBT := Lib.hid (fb2 HBT.out hbk (Nat.le_refl _))
        replace HBZ := Lib.hid (fb2 HBZ.out hbk (Nat.le_refl _))
        clear hbk
        have HCC := Lib.hid (areNames_calls (aggNames L) (names_ok HXL.out) (some ⟨g, 0, none⟩) ln ln W201 (HTZ.out.on HBZ.out))
        cases p2 : namesB [] (aggNames L) with
        | false =>
          rw [p2] at HCC
          go_wp2_with fail
          refine HCC.out.mono ?_
          clear HCC
          rintro e W202 ⟨rfl, hbk⟩
          replace HBT := Lib.hid (fb2 HBT.out hbk (Nat.le_refl _))
          replace HBZ := Lib.hid (fb2 HBZ.out hbk (Nat.le_refl _))
          clear hbk
          have HE := Lib.hid (check_form (V := V) (R := R) (B := B) (L := L) (by rw [HFA.out, p1, p2]; simp))
          go_wp2
          go_ret
          exact ⟨by rw [HE.out]; rfl, HBT.out⟩
        | true =>
          rw [p2] at HCC
          go_wp2_with fail
          refine HCC.out.mono ?_
          clear HCC
          rintro e W202 ⟨rfl, hbk⟩
          replace HBT := Lib.hid (fb2 HBT.out hbk (Nat.le_refl _))
          replace HBZ := Lib.hid (fb2 HBZ.out hbk (Nat.le_refl _))
          clear hbk
          have HCC := Lib.hid (hasG_calls L (fun a => !aggB a) 33 #[] HGW.out la ln lc W202 (HLAZ.out.on HBZ.out) (fun W j hj hbj => isWrong_calls L[j] (HXL.out _ (List.getElem_mem hj)).1 W))
          cases p3 : L.any fun a => !aggB a with
          | false =>
            rw [p3] at HCC
            go_wp2_with fail
            refine HCC.out.mono ?_
            clear HCC
            rintro e W203 ⟨rfl, hbk⟩
            replace HBT := Lib.hid (fb2 HBT.out hbk (Nat.le_refl _))
            replace HBZ := Lib.hid (fb2 HBZ.out hbk (Nat.le_refl _))
            clear hbk
            have HCC := Lib.hid (hasS_calls B (strayB V) 30 #[.pointer (some ⟨H, 0, none⟩)] HG2.out ba bn bc W203 (HBAZ.out.on HBZ.out) (fun W j hj hbj => HC2.out W (fb2 HBZ.out hbj (Nat.le_refl _)) _ (HXB.out _ (List.getElem_mem hj))))
            cases s1 : B.any (strayB V) with
            | false =>
              rw [s1] at HCC
              go_wp2_with fail
              refine HCC.out.mono ?_
              clear HCC
              rintro e W204 ⟨rfl, hbk⟩
              replace HBT := Lib.hid (fb2 HBT.out hbk (Nat.le_refl _))
              replace HBZ := Lib.hid (fb2 HBZ.out hbk (Nat.le_refl _))
              clear hbk
              go_wp2_with fail
              refine (oversOf_calls L la ln lc W204 (HLAZ.out.on HBZ.out) h6).mono ?_
              rintro e W205 ⟨oa, oq, oc, rfl, hTO, hbk⟩
              have HTO := Lib.hid hTO
              replace HBT := Lib.hid (fb2 HBT.out hbk (Nat.le_refl _))
              replace HBZ := Lib.hid (fb2 HBZ.out hbk (Nat.le_refl _))
              clear hbk hTO
              have HCC := Lib.hid (hasS_calls (oversL L) (strayB V) 30 #[.pointer (some ⟨H, 0, none⟩)] HG2.out oa oq oc W205 HTO.out (fun W j hj hbj => HC2.out W (fb2 HBZ.out hbj (Nat.le_refl _)) _ (overs_ok HXL.out _ (List.getElem_mem hj))))
              cases s2 : (oversL L).any (strayB V) with
              | false =>
                rw [s2] at HCC
                go_wp2_with fail
                refine HCC.out.mono ?_
                clear HCC
                rintro e W206 ⟨rfl, hbk⟩
                replace HBT := Lib.hid (fb2 HBT.out hbk (Nat.le_refl _))
                replace HBZ := Lib.hid (fb2 HBZ.out hbk (Nat.le_refl _))
                clear hbk
                have gH6 := keptC gH HBZ.out hlH
                have HCC := Lib.hid (hasS_calls (aggNames L) (fun x => !strayB V x) 29 #[.pointer (some ⟨G, 0, none⟩)] HG1.out (some ⟨g, 0, none⟩) ln ln W206 (HTZ.out.on HBZ.out) (fun W j hj hbj => HC1.out W (fb2 HBZ.out hbj (Nat.le_refl _)) _ (names_ok HXL.out _ (List.getElem_mem hj))))
                cases s3 : (aggNames L).any fun x => !strayB V x with
                | false =>
                  rw [s3] at HCC
                  go_wp2_with fail
                  refine HCC.out.mono ?_
                  clear HCC
                  rintro e W207 ⟨rfl, hbk⟩
                  replace HBT := Lib.hid (fb2 HBT.out hbk (Nat.le_refl _))
                  replace HBZ := Lib.hid (fb2 HBZ.out hbk (Nat.le_refl _))
                  clear hbk
                  have hbn : bn ≤ 32 := by have h1 := by_len p1 s1; have h2 := HV32.out; have h3 := HBL.out; omega
                  by_cases h32 : 32 < bn + ln
                  · have HE := Lib.hid (check_long (V := V) (R := R) (B := B) (L := L) (by rw [HFA.out, p1, p2, p3]; rfl) (by unfold scopeG; rw [s1, s2, s3]; rfl) (by rw [HBL.out, HLL.out]; exact h32))
                    have g32 : (32 : Int) < (bn : Int) + (ln : Int) := by omega
                    have gw : IntKind.i64.wrap ((bn : Int) + (ln : Int)) = (bn : Int) + (ln : Int) := by rw [IntKind.wrap_i64]; omega
                    go_wp2
                    go_ret
                    exact ⟨by rw [HE.out]; rfl, HBT.out⟩
                  · have HE := Lib.hid (check_ok (V := V) (R := R) (B := B) (L := L) (by rw [HFA.out, p1, p2, p3]; rfl) (by unfold scopeG; rw [s1, s2, s3]; rfl) (by rw [HBL.out, HLL.out]; exact h32))
                    have g32 : ¬ (32 : Int) < (bn : Int) + (ln : Int) := by omega
                    have gw : IntKind.i64.wrap ((bn : Int) + (ln : Int)) = (bn : Int) + (ln : Int) := by rw [IntKind.wrap_i64]; omega
                    go_wp2
                    go_ret
                    exact ⟨by rw [HE.out]; rfl, HBT.out⟩
                | true =>
                  rw [s3] at HCC
                  go_wp2_with fail
                  refine HCC.out.mono ?_
                  clear HCC
                  rintro e W207 ⟨rfl, hbk⟩
                  replace HBT := Lib.hid (fb2 HBT.out hbk (Nat.le_refl _))
                  replace HBZ := Lib.hid (fb2 HBZ.out hbk (Nat.le_refl _))
                  clear hbk
                  have HE := Lib.hid (check_scope (V := V) (R := R) (B := B) (L := L) (by rw [HFA.out, p1, p2, p3]; rfl) (by unfold scopeG; rw [s1, s2, s3]; simp))
                  go_wp2
                  go_ret
                  exact ⟨by rw [HE.out]; rfl, HBT.out⟩
              | true =>
                rw [s2] at HCC
                go_wp2_with fail
                refine HCC.out.mono ?_
                clear HCC
                rintro e W206 ⟨rfl, hbk⟩
                replace HBT := Lib.hid (fb2 HBT.out hbk (Nat.le_refl _))
                replace HBZ := Lib.hid (fb2 HBZ.out hbk (Nat.le_refl _))
                clear hbk
                have HE := Lib.hid (check_scope (V := V) (R := R) (B := B) (L := L) (by rw [HFA.out, p1, p2, p3]; rfl) (by unfold scopeG; rw [s1, s2]; simp))
                go_wp2
                go_ret
                exact ⟨by rw [HE.out]; rfl, HBT.out⟩
            | true =>
              rw [s1] at HCC
              go_wp2_with fail
              refine HCC.out.mono ?_
              clear HCC
              rintro e W204 ⟨rfl, hbk⟩
              replace HBT := Lib.hid (fb2 HBT.out hbk (Nat.le_refl _))
              replace HBZ := Lib.hid (fb2 HBZ.out hbk (Nat.le_refl _))
              clear hbk
              have HE := Lib.hid (check_scope (V := V) (R := R) (B := B) (L := L) (by rw [HFA.out, p1, p2, p3]; rfl) (by unfold scopeG; rw [s1]; simp))
              go_wp2
              go_ret
              exact ⟨by rw [HE.out]; rfl, HBT.out⟩
          | true =>
            rw [p3] at HCC
            go_wp2_with fail
            refine HCC.out.mono ?_
            clear HCC
            rintro e W203 ⟨rfl, hbk⟩
            replace HBT := Lib.hid (fb2 HBT.out hbk (Nat.le_refl _))
            replace HBZ := Lib.hid (fb2 HBZ.out hbk (Nat.le_refl _))
            clear hbk
            have HE := Lib.hid (check_form (V := V) (R := R) (B := B) (L := L) (by rw [HFA.out, p1, p2, p3]; simp))
            go_wp2
            go_ret
            exact ⟨by rw [HE.out]; rfl, HBT.out⟩

end Go.Proofs.YtdnfaoanaehjhaaGreatDoor
