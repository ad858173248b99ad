/- The document's check of operations: long, shaped, nested, a name in scope. What a call tells of a place in a code, or why not: by the document's own answers. Are there more operations than can be gone through here? -/
import Derived.Test.YtiliobfgmelncaaGreatRefNameds
import Derived.Test.YtiliobfgmelncaaGreatScopeTies
import Derived.Test.YtiliobfgmelncaaGreatScopeEnds
import Derived.Test.YtiliobfgmelncaaGreatRefScopeShape
namespace Go.Proofs.YtiliobfgmelncaaGreat
open Go.RowKit

theorem OpsA.name {w : World} {a : Option Addr} {n c : Nat} {C : List OpL} (h : OpsA w a n c C) (h0 : 0 < n) : ∃ g o, a = some ⟨g, o, none⟩ ∧ g < w.heap.size ∧ ∀ j (hj : j < C.length), w.cell? ⟨g, o + j * 7, none⟩ = some (.int .i64 C[j].k) ∧ w.cell? ⟨g, o + j * 7 + 5, none⟩ = some (.string (bs C[j].m)) := by
  obtain ⟨g, o, ha, hg, hc⟩ := h.cells h0
  refine ⟨g, o, ha, hg, fun j hj => ?_⟩
  obtain ⟨A, h7, _⟩ := hc j hj
  exact ⟨h7.1, h7.2.2.2.2.2.1⟩
theorem any_next {C : List OpL} {k : Nat} (h : (List.range k).any (eO C) = false) (h1 : eO C k = false) : (List.range (k + 1)).any (eO C) = false := by
  rw [List.range_succ, List.any_append, h]
  simp [h1]
theorem any_yes {C : List OpL} {k : Nat} (hk : k < C.length) (h1 : eO C k = true) : (List.range C.length).any (eO C) = true := by
  rw [List.any_eq_true]
  exact ⟨k, List.mem_range.2 hk, h1⟩
theorem eO_no {C : List OpL} {k : Nat} (h : k < C.length) (hk : C[k].k ≠ 8) : eO C k = false := by
  unfold eO
  rw [dif_pos h, show (C[k].k == 8) = false from by rw [Bool.eq_false_iff]; intro c; exact hk (eq_of_beq c)]; rfl
theorem eO_is {C : List OpL} {k : Nat} (h : k < C.length) (hk : C[k].k = 8) : eO C k = decide (C[k].m ∈ nmC C false (k - 1)) := by
  unfold eO
  rw [dif_pos h, hk]; rfl

set_option maxRecDepth 100000 in
set_option maxHeartbeats 400000 in
theorem rOCheck_calls (C : List OpL) (hok : ∀ o ∈ C, OpOk o) (a : Option Addr) (n c : Nat) (w : World) (hv : OpsA w a n c C) :
    Calls Tryz.prog 14 #[.slice a n c] w fun e w' => e = .returned (.int .i64 (checkC C)) ∧ Below w.heap.size w w' := by
  have HL := Lib.hid hv.len
  have hcp := hv.cap
  have hms := hv.most
  unfold maxLen at hms
  have n0 : (0 : Int) ≤ (n : Int) := by omega
  by_cases hl : 128 < n
  · have HE : Hid (checkC C = 3) := Lib.hid (by unfold checkC; rw [if_pos (by rw [hv.len]; exact hl)])
    clear hv hok
    have h1 : (n : Int) > 128 := by omega
    go_enter Tryz.func14, Tryz.ntmps14
    go_wp2
    go_ret
    exact ⟨by rw [HE.out]; rfl, Below.refl _ _⟩
  have HS := Lib.hid (rshaped_calls C hok a n c w hv)
  have h1 : ¬ (n : Int) > 128 := by omega
  have hl2 : n ≤ 128 := by omega
  have HC : Hid (checkC C = if shB C = false ∨ nestB C = true then 2 else if (List.range C.length).any (eO C) = true then 6 else 0) := Lib.hid (by unfold checkC; rw [if_neg (by rw [hv.len]; exact hl)])
  by_cases hs : shB C = true
  case neg =>
    have hs2 : shB C = false := Bool.eq_false_iff.2 hs
    have HE : Hid (checkC C = 2) := Lib.hid (by rw [HC.out, if_pos (.inl hs2)])
    rw [hs2] at HS
    clear hv hok HC hs hs2 hl
    go_enter Tryz.func14, Tryz.ntmps14
    go_wp2_with fail
    refine HS.out.mono ?_
    rintro e w2 ⟨rfl, hb2⟩
    have HB2 := Lib.hid hb2
    clear hb2
    go_wp2
    go_ret
    exact ⟨by rw [HE.out]; rfl, HB2.out⟩
  have HN := Lib.hid (fun W (hb : Below w.heap.size w W) => rnested_calls C a n c W (hv.on hb) hs hl2)
  have HS1 := Lib.hid hs
  rw [hs] at HS
  by_cases hn : nestB C = true
  · have HE : Hid (checkC C = 2) := Lib.hid (by rw [HC.out, if_pos (.inr hn)])
    rw [hn] at HN
    clear hv hok HC hs hn hl HS1
    go_enter Tryz.func14, Tryz.ntmps14
    go_wp2_with fail
    refine HS.out.mono ?_
    rintro e w2 ⟨rfl, hb2⟩
    have HB2 := Lib.hid hb2
    clear hb2
    go_wp2_with fail
    refine (HN.out _ HB2.out).mono ?_
    rintro e w3 ⟨rfl, hb3⟩
    have HB3 := Lib.hid (HB2.out.trans (hb3.mono HB2.out.size))
    clear hb3
    go_wp2
    go_ret
    exact ⟨by rw [HE.out]; rfl, HB3.out⟩
  have hn2 : nestB C = false := Bool.eq_false_iff.2 hn
  rw [hn2] at HN
  have HE : Hid (checkC C = if (List.range C.length).any (eO C) = true then 6 else 0) := Lib.hid (by rw [HC.out, if_neg (by rw [hs, hn2]; simp)])
  have HV := Lib.hid hv
  clear hok HC hn hn2 hl hv
  go_enter Tryz.func14, Tryz.ntmps14
  go_wp2_with fail
  refine HS.out.mono ?_
  rintro e w2 ⟨rfl, hb2⟩
  have HB2 := Lib.hid hb2
  clear hb2
  go_wp2_with fail
  refine (HN.out _ HB2.out).mono ?_
  rintro e w3 ⟨rfl, hb3⟩
  have HB3 := Lib.hid (HB2.out.trans (hb3.mono HB2.out.size))
  clear hb3 HN HS HB2
  go_wp2
  go_loopg [3] n (fun g i wr => ∃ k : Nat, i = .int .i64 k ∧ k + g = n ∧ Hid ((List.range k).any (eO C) = false) ∧ Hid (Below w.heap.size w wr))
  case atStart => exact ⟨0, rfl, by omega, Lib.hid rfl, HB3⟩
  case round =>
    obtain ⟨W1, rfl⟩ : ∃ W1, W1 = wr := ⟨_, rfl⟩
    obtain ⟨k, rfl, hkg, HR, HB⟩ := hrel
    by_cases hk : k < n
    · obtain ⟨gg, rfl⟩ : ∃ gg, gk = gg + 1 := ⟨gk - 1, by omega⟩
      have hkL : k < C.length := by rw [HL.out]; exact hk
      obtain ⟨g, o, ha, hgw, hcells⟩ := (HV.out.on HB.out).name (by omega)
      subst ha
      obtain ⟨c0, c5⟩ := hcells k hkL
      clear hcells
      have HNX := Lib.hid (fun h => any_next HR.out h)
      have HYS := Lib.hid (fun h => any_yes hkL h)
      have k0 : (0 : Int) ≤ (k : Int) := by omega
      have k1 : (k : Int) < (n : Int) := by omega
      by_cases h8 : C[k].k = 8
      · have HEO := Lib.hid (eO_is hkL h8)
        have hpos := need_ahead HS1.out hkL (by rw [nd_of.2.2.2.1 h8]; decide)
        rw [h8] at c0
        obtain ⟨j, hj⟩ : ∃ j, k = j + 1 := ⟨k - 1, by omega⟩
        have hjk : k - 1 = j := by omega
        rw [hjk] at HEO
        have e0 : (k : Int) - 1 = (j : Int) := by omega
        have e1 : IntKind.i64.wrap (j : Int) = (j : Int) := IntWalk.i64_in _ (by omega)
        generalize C[k].m = m at c5 HEO
        have HNA := Lib.hid (show ∀ (W : World), Below w.heap.size w W → Calls Tryz.prog 38 #[.slice (some ⟨g, o, none⟩) n c, .int .i64 j, .bool false] W (NamesT W (nmC C false j)) from fun W hb => rNames_calls C HS1.out false (some ⟨g, o, none⟩) n c hl2 (j + 1) j W (HV.out.on hb) (Nat.lt_succ_self j) (by omega))
        have HINA := Lib.hid (fun a n c W (h : TxtA W a n c (nmC C false j)) => InA_calls (nmC C false j) m a n c W h)
        have hgW : g < W1.heap.size := hgw
        generalize nmC C false j = N at HEO HNA HINA
        clear h8 hpos HR hj hjk
        cases hD : decide (m ∈ N) with
        | true =>
          rw [hD] at HEO HINA
          have HE1 : Hid (checkC C = 6) := Lib.hid (by rw [HE.out, if_pos (HYS.out HEO.out)])
          clear hD HNX HYS HEO HE
          go_upto_region 8 with fail
          have HD := Lib.hid (show Below w.heap.size w W1.drew from HB.out.trans ((Below.refl W1.heap.size W1).drew.mono HB.out.size))
          have HGW := Lib.hid hgW
          refine wp_region_held_drew (S := (fun WW => WW.cell? ⟨g, o + k * 7, none⟩ = some (.int .i64 8) ∧ WW.cell? ⟨g, o + k * 7 + 5, none⟩ = some (.string (bs m)))) (by kernel_rfl) ?_ (fun hHeld => ?_)
          · (try dsimp only); exact ⟨c0, c5⟩
          refine wpAnyH_take (i := 0) (oi := ⟨some 20, _, _, _, _, _⟩) (v := ?_) rfl (by kernel_rfl) (by kernel_rfl) (by kernel_rfl) (fun _ _ _ h => h) (Or.inl ⟨by kernel_rfl, ?_⟩) (by assumption) ?_
          rotate_left
          · (intro ww hSw; (try dsimp only at hSw); go_simp); (try with_reducible rfl)
          (try simp only [Act.put, List.setIfInBounds_toArray, List.set_cons_zero, List.set_cons_succ])
          refine wpAnyH_take (i := 1) (oi := ⟨some 21, _, _, _, _, _⟩) (v := ?_) rfl (by kernel_rfl) (by kernel_rfl) (by kernel_rfl) (fun _ _ _ h => h) (Or.inl ⟨by kernel_rfl, ?_⟩) (by assumption) ?_
          rotate_left
          · (intro ww hSw; (try dsimp only at hSw); go_simp); (try with_reducible rfl)
          (try simp only [Act.put, List.setIfInBounds_toArray, List.set_cons_zero, List.set_cons_succ])
          refine wpAnyH_take (i := 2) (oi := ⟨some 22, _, _, _, _, _⟩) (v := ?_) rfl (by kernel_rfl) (by kernel_rfl) (by kernel_rfl) (fun _ _ _ h => h) (Or.inl ⟨by kernel_rfl, ?_⟩) (by assumption) ?_
          rotate_left
          · (intro ww hSw; (try dsimp only at hSw); go_simp); (try with_reducible rfl)
          (try simp only [Act.put, List.setIfInBounds_toArray, List.set_cons_zero, List.set_cons_succ])
          refine wpAnyH_take (i := 3) (oi := ⟨some 23, _, _, _, _, _⟩) (v := ?_) rfl (by kernel_rfl) (by kernel_rfl) (by kernel_rfl) (fun _ _ _ h => h) (Or.inl ⟨by kernel_rfl, ?_⟩) (by assumption) ?_
          rotate_left
          · (intro ww hSw; (try dsimp only at hSw); go_simp); (try with_reducible rfl)
          (try simp only [Act.put, List.setIfInBounds_toArray, List.set_cons_zero, List.set_cons_succ])
          refine wpAnyH_take (i := 4) (oi := ⟨some 24, _, _, _, _, _⟩) (v := ?_) rfl (by kernel_rfl) (by kernel_rfl) (by kernel_rfl) (fun _ _ _ h => h) (Or.inl ⟨by kernel_rfl, ?_⟩) (by assumption) ?_
          rotate_left
          · (intro ww hSw; (try dsimp only at hSw); go_simp); (try with_reducible rfl)
          (try simp only [Act.put, List.setIfInBounds_toArray, List.set_cons_zero, List.set_cons_succ])
          refine wpAnyH_take (i := 5) (oi := ⟨some 25, _, _, _, _, _⟩) (v := .bool true) rfl (by kernel_rfl) (by kernel_rfl) (by kernel_rfl) (fun _ _ _ h => h) (Or.inl ⟨by kernel_rfl, ?_⟩) (by assumption) ?_
          · (intro ww hSw; (try dsimp only at hSw); (go_simp))
          (try simp only [Act.put, List.setIfInBounds_toArray, List.set_cons_zero, List.set_cons_succ])
          refine wpAnyH_take (i := 6) (oi := ⟨some 26, _, _, _, _, _⟩) (v := ?_) rfl (by kernel_rfl) (by kernel_rfl) (by kernel_rfl) (fun _ _ _ h => h) (Or.inl ⟨by kernel_rfl, ?_⟩) (by assumption) ?_
          rotate_left
          · (intro ww hSw; (try dsimp only at hSw); go_simp); (try with_reducible rfl)
          (try simp only [Act.put, List.setIfInBounds_toArray, List.set_cons_zero, List.set_cons_succ])
          refine wpAnyH_take (i := 7) (oi := ⟨some 27, _, _, _, _, _⟩) (v := ?_) rfl (by kernel_rfl) (by kernel_rfl) (by kernel_rfl) (fun _ _ _ h => h) (Or.inl ⟨by kernel_rfl, ?_⟩) (by assumption) ?_
          rotate_left
          · (intro ww hSw; (try dsimp only at hSw); go_simp); (try with_reducible rfl)
          (try simp only [Act.put, List.setIfInBounds_toArray, List.set_cons_zero, List.set_cons_succ])
          refine wpAnyH_take (i := 8) (oi := ⟨some 28, _, _, _, _, _⟩) (v := ?_) rfl (by kernel_rfl) (by kernel_rfl) (by kernel_rfl) (fun _ _ _ h => h) (Or.inl ⟨by kernel_rfl, ?_⟩) (by assumption) ?_
          rotate_left
          · (intro ww hSw; (try dsimp only at hSw); go_simp); (try with_reducible rfl)
          (try simp only [Act.put, List.setIfInBounds_toArray, List.set_cons_zero, List.set_cons_succ])
          refine wpAnyH_take (i := 9) (oi := ⟨some 29, _, _, _, _, _⟩) (v := .int .i64 (j : Int)) rfl (by kernel_rfl) (by kernel_rfl) (by kernel_rfl) (fun _ _ _ h => h) (Or.inl ⟨by kernel_rfl, ?_⟩) (by assumption) ?_
          · (intro ww hSw; (try dsimp only at hSw); (go_simp))
          (try simp only [Act.put, List.setIfInBounds_toArray, List.set_cons_zero, List.set_cons_succ])
          refine wpAnyH_take (i := 11) (oi := ⟨some 31, _, _, _, _, _⟩) (v := ?_) rfl (by kernel_rfl) (by kernel_rfl) (by kernel_rfl) (fun _ _ _ h => h) (Or.inl ⟨by kernel_rfl, ?_⟩) (by assumption) ?_
          rotate_left
          · (intro ww hSw; (try dsimp only at hSw); go_simp); (try with_reducible rfl)
          (try simp only [Act.put, List.setIfInBounds_toArray, List.set_cons_zero, List.set_cons_succ])
          refine wpAnyH_take (i := 12) (oi := ⟨some 32, _, _, _, _, _⟩) (v := ?_) rfl (by kernel_rfl) (by kernel_rfl) (by kernel_rfl) (fun _ _ _ h => h) (Or.inl ⟨by kernel_rfl, ?_⟩) (by assumption) ?_
          rotate_left
          · (intro ww hSw; (try dsimp only at hSw); go_simp); (try with_reducible rfl)
          (try simp only [Act.put, List.setIfInBounds_toArray, List.set_cons_zero, List.set_cons_succ])
          refine wpAnyH_take (i := 13) (oi := ⟨some 33, _, _, _, _, _⟩) (v := ?_) rfl (by kernel_rfl) (by kernel_rfl) (by kernel_rfl) (fun _ _ _ h => h) (Or.inl ⟨by kernel_rfl, ?_⟩) (by assumption) ?_
          rotate_left
          · (intro ww hSw; (try dsimp only at hSw); go_simp); (try with_reducible rfl)
          (try simp only [Act.put, List.setIfInBounds_toArray, List.set_cons_zero, List.set_cons_succ])
          refine wpAnyH_take (i := 14) (oi := ⟨some 34, _, _, _, _, _⟩) (v := ?_) rfl (by kernel_rfl) (by kernel_rfl) (by kernel_rfl) (fun _ _ _ h => h) (Or.inl ⟨by kernel_rfl, ?_⟩) (by assumption) ?_
          rotate_left
          · (intro ww hSw; (try dsimp only at hSw); go_simp); (try with_reducible rfl)
          (try simp only [Act.put, List.setIfInBounds_toArray, List.set_cons_zero, List.set_cons_succ])
          refine wpAnyH_take (i := 15) (oi := ⟨some 35, _, _, _, _, _⟩) (v := ?_) rfl (by kernel_rfl) (by kernel_rfl) (by kernel_rfl) (fun _ _ _ h => h) (Or.inl ⟨by kernel_rfl, ?_⟩) (by assumption) ?_
          rotate_left
          · (intro ww hSw; (try dsimp only at hSw); go_simp); (try with_reducible rfl)
          (try simp only [Act.put, List.setIfInBounds_toArray, List.set_cons_zero, List.set_cons_succ])
          refine wpAnyH_ready (rs := [10]) (by kernel_rfl) (by simp) ?_
          refine AllReadyH.cons rfl (fun K hK => ?_) AllReadyH.nil
          go_simp
          refine (HNA.out _ HD.out).mono ?_
          rintro e4 w4 ⟨a4, q4, rfl, ht4, hb4⟩
          have HB4 := Lib.hid (HD.out.trans (hb4.mono HD.out.size))
          have HT4 := Lib.hid ht4
          have d0 := (hb4.cell (p := ⟨g, o + k * 7, none⟩) HGW.out).trans c0
          have d5 := (hb4.cell (p := ⟨g, o + k * 7 + 5, none⟩) HGW.out).trans c5
          clear hb4 ht4
          go_wp2_with fail
          refine hK.out _ _ ?_ (fun hHeld => ?_)
          · (try dsimp only); exact ⟨d0, d5⟩
          clear hK K
          (try simp only [Act.put, List.setIfInBounds_toArray, List.set_cons_zero, List.set_cons_succ])
          refine wpAnyH_ready (rs := [16]) (by kernel_rfl) (by simp) ?_
          refine AllReadyH.cons rfl (fun K hK => ?_) AllReadyH.nil
          go_simp
          refine (HINA.out _ _ _ _ HT4.out).mono ?_
          rintro e5 w5 ⟨rfl, rfl⟩
          go_wp2_with fail
          refine hK.out _ _ ?_ (fun hHeld => ?_)
          · (try dsimp only); exact ⟨d0, d5⟩
          clear hK K
          (try simp only [Act.put, List.setIfInBounds_toArray, List.set_cons_zero, List.set_cons_succ])
          refine wpAnyH_take (i := 17) (oi := ⟨some 37, _, _, _, _, _⟩) (v := ?_) rfl (by kernel_rfl) (by kernel_rfl) (by kernel_rfl) (fun _ _ _ h => h) (Or.inl ⟨by kernel_rfl, ?_⟩) (by assumption) ?_
          rotate_left
          · (intro ww hSw; (try dsimp only at hSw); go_simp); (try with_reducible rfl)
          (try simp only [Act.put, List.setIfInBounds_toArray, List.set_cons_zero, List.set_cons_succ])
          refine wpAnyH_done (by kernel_rfl) ?_ _
          go_wp2
          go_ret
          exact ⟨by rw [HE1.out]; rfl, HB4.out⟩
        | false =>
          rw [hD] at HEO HINA
          have HR2 := Lib.hid (HNX.out HEO.out)
          clear hD HNX HYS HEO
          go_upto_region 8 with fail
          have HD := Lib.hid (show Below w.heap.size w W1.drew from HB.out.trans ((Below.refl W1.heap.size W1).drew.mono HB.out.size))
          have HGW := Lib.hid hgW
          refine wp_region_held_drew (S := (fun WW => WW.cell? ⟨g, o + k * 7, none⟩ = some (.int .i64 8) ∧ WW.cell? ⟨g, o + k * 7 + 5, none⟩ = some (.string (bs m)))) (by kernel_rfl) ?_ (fun hHeld => ?_)
          · (try dsimp only); exact ⟨c0, c5⟩
          refine wpAnyH_take (i := 0) (oi := ⟨some 20, _, _, _, _, _⟩) (v := ?_) rfl (by kernel_rfl) (by kernel_rfl) (by kernel_rfl) (fun _ _ _ h => h) (Or.inl ⟨by kernel_rfl, ?_⟩) (by assumption) ?_
          rotate_left
          · (intro ww hSw; (try dsimp only at hSw); go_simp); (try with_reducible rfl)
          (try simp only [Act.put, List.setIfInBounds_toArray, List.set_cons_zero, List.set_cons_succ])
          refine wpAnyH_take (i := 1) (oi := ⟨some 21, _, _, _, _, _⟩) (v := ?_) rfl (by kernel_rfl) (by kernel_rfl) (by kernel_rfl) (fun _ _ _ h => h) (Or.inl ⟨by kernel_rfl, ?_⟩) (by assumption) ?_
          rotate_left
          · (intro ww hSw; (try dsimp only at hSw); go_simp); (try with_reducible rfl)
          (try simp only [Act.put, List.setIfInBounds_toArray, List.set_cons_zero, List.set_cons_succ])
          refine wpAnyH_take (i := 2) (oi := ⟨some 22, _, _, _, _, _⟩) (v := ?_) rfl (by kernel_rfl) (by kernel_rfl) (by kernel_rfl) (fun _ _ _ h => h) (Or.inl ⟨by kernel_rfl, ?_⟩) (by assumption) ?_
          rotate_left
          · (intro ww hSw; (try dsimp only at hSw); go_simp); (try with_reducible rfl)
          (try simp only [Act.put, List.setIfInBounds_toArray, List.set_cons_zero, List.set_cons_succ])
          refine wpAnyH_take (i := 3) (oi := ⟨some 23, _, _, _, _, _⟩) (v := ?_) rfl (by kernel_rfl) (by kernel_rfl) (by kernel_rfl) (fun _ _ _ h => h) (Or.inl ⟨by kernel_rfl, ?_⟩) (by assumption) ?_
          rotate_left
          · (intro ww hSw; (try dsimp only at hSw); go_simp); (try with_reducible rfl)
          (try simp only [Act.put, List.setIfInBounds_toArray, List.set_cons_zero, List.set_cons_succ])
          refine wpAnyH_take (i := 4) (oi := ⟨some 24, _, _, _, _, _⟩) (v := ?_) rfl (by kernel_rfl) (by kernel_rfl) (by kernel_rfl) (fun _ _ _ h => h) (Or.inl ⟨by kernel_rfl, ?_⟩) (by assumption) ?_
          rotate_left
          · (intro ww hSw; (try dsimp only at hSw); go_simp); (try with_reducible rfl)
          (try simp only [Act.put, List.setIfInBounds_toArray, List.set_cons_zero, List.set_cons_succ])
          refine wpAnyH_take (i := 5) (oi := ⟨some 25, _, _, _, _, _⟩) (v := .bool true) rfl (by kernel_rfl) (by kernel_rfl) (by kernel_rfl) (fun _ _ _ h => h) (Or.inl ⟨by kernel_rfl, ?_⟩) (by assumption) ?_
          · (intro ww hSw; (try dsimp only at hSw); (go_simp))
          (try simp only [Act.put, List.setIfInBounds_toArray, List.set_cons_zero, List.set_cons_succ])
          refine wpAnyH_take (i := 6) (oi := ⟨some 26, _, _, _, _, _⟩) (v := ?_) rfl (by kernel_rfl) (by kernel_rfl) (by kernel_rfl) (fun _ _ _ h => h) (Or.inl ⟨by kernel_rfl, ?_⟩) (by assumption) ?_
          rotate_left
          · (intro ww hSw; (try dsimp only at hSw); go_simp); (try with_reducible rfl)
          (try simp only [Act.put, List.setIfInBounds_toArray, List.set_cons_zero, List.set_cons_succ])
          refine wpAnyH_take (i := 7) (oi := ⟨some 27, _, _, _, _, _⟩) (v := ?_) rfl (by kernel_rfl) (by kernel_rfl) (by kernel_rfl) (fun _ _ _ h => h) (Or.inl ⟨by kernel_rfl, ?_⟩) (by assumption) ?_
          rotate_left
          · (intro ww hSw; (try dsimp only at hSw); go_simp); (try with_reducible rfl)
          (try simp only [Act.put, List.setIfInBounds_toArray, List.set_cons_zero, List.set_cons_succ])
          refine wpAnyH_take (i := 8) (oi := ⟨some 28, _, _, _, _, _⟩) (v := ?_) rfl (by kernel_rfl) (by kernel_rfl) (by kernel_rfl) (fun _ _ _ h => h) (Or.inl ⟨by kernel_rfl, ?_⟩) (by assumption) ?_
          rotate_left
          · (intro ww hSw; (try dsimp only at hSw); go_simp); (try with_reducible rfl)
          (try simp only [Act.put, List.setIfInBounds_toArray, List.set_cons_zero, List.set_cons_succ])
          refine wpAnyH_take (i := 9) (oi := ⟨some 29, _, _, _, _, _⟩) (v := .int .i64 (j : Int)) rfl (by kernel_rfl) (by kernel_rfl) (by kernel_rfl) (fun _ _ _ h => h) (Or.inl ⟨by kernel_rfl, ?_⟩) (by assumption) ?_
          · (intro ww hSw; (try dsimp only at hSw); (go_simp))
          (try simp only [Act.put, List.setIfInBounds_toArray, List.set_cons_zero, List.set_cons_succ])
          refine wpAnyH_take (i := 11) (oi := ⟨some 31, _, _, _, _, _⟩) (v := ?_) rfl (by kernel_rfl) (by kernel_rfl) (by kernel_rfl) (fun _ _ _ h => h) (Or.inl ⟨by kernel_rfl, ?_⟩) (by assumption) ?_
          rotate_left
          · (intro ww hSw; (try dsimp only at hSw); go_simp); (try with_reducible rfl)
          (try simp only [Act.put, List.setIfInBounds_toArray, List.set_cons_zero, List.set_cons_succ])
          refine wpAnyH_take (i := 12) (oi := ⟨some 32, _, _, _, _, _⟩) (v := ?_) rfl (by kernel_rfl) (by kernel_rfl) (by kernel_rfl) (fun _ _ _ h => h) (Or.inl ⟨by kernel_rfl, ?_⟩) (by assumption) ?_
          rotate_left
          · (intro ww hSw; (try dsimp only at hSw); go_simp); (try with_reducible rfl)
          (try simp only [Act.put, List.setIfInBounds_toArray, List.set_cons_zero, List.set_cons_succ])
          refine wpAnyH_take (i := 13) (oi := ⟨some 33, _, _, _, _, _⟩) (v := ?_) rfl (by kernel_rfl) (by kernel_rfl) (by kernel_rfl) (fun _ _ _ h => h) (Or.inl ⟨by kernel_rfl, ?_⟩) (by assumption) ?_
          rotate_left
          · (intro ww hSw; (try dsimp only at hSw); go_simp); (try with_reducible rfl)
          (try simp only [Act.put, List.setIfInBounds_toArray, List.set_cons_zero, List.set_cons_succ])
          refine wpAnyH_take (i := 14) (oi := ⟨some 34, _, _, _, _, _⟩) (v := ?_) rfl (by kernel_rfl) (by kernel_rfl) (by kernel_rfl) (fun _ _ _ h => h) (Or.inl ⟨by kernel_rfl, ?_⟩) (by assumption) ?_
          rotate_left
          · (intro ww hSw; (try dsimp only at hSw); go_simp); (try with_reducible rfl)
          (try simp only [Act.put, List.setIfInBounds_toArray, List.set_cons_zero, List.set_cons_succ])
          refine wpAnyH_take (i := 15) (oi := ⟨some 35, _, _, _, _, _⟩) (v := ?_) rfl (by kernel_rfl) (by kernel_rfl) (by kernel_rfl) (fun _ _ _ h => h) (Or.inl ⟨by kernel_rfl, ?_⟩) (by assumption) ?_
          rotate_left
          · (intro ww hSw; (try dsimp only at hSw); go_simp); (try with_reducible rfl)
          (try simp only [Act.put, List.setIfInBounds_toArray, List.set_cons_zero, List.set_cons_succ])
          refine wpAnyH_ready (rs := [10]) (by kernel_rfl) (by simp) ?_
          refine AllReadyH.cons rfl (fun K hK => ?_) AllReadyH.nil
          go_simp
          refine (HNA.out _ HD.out).mono ?_
          rintro e4 w4 ⟨a4, q4, rfl, ht4, hb4⟩
          have HB4 := Lib.hid (HD.out.trans (hb4.mono HD.out.size))
          have HT4 := Lib.hid ht4
          have d0 := (hb4.cell (p := ⟨g, o + k * 7, none⟩) HGW.out).trans c0
          have d5 := (hb4.cell (p := ⟨g, o + k * 7 + 5, none⟩) HGW.out).trans c5
          clear hb4 ht4
          go_wp2_with fail
          refine hK.out _ _ ?_ (fun hHeld => ?_)
          · (try dsimp only); exact ⟨d0, d5⟩
          clear hK K
          (try simp only [Act.put, List.setIfInBounds_toArray, List.set_cons_zero, List.set_cons_succ])
          refine wpAnyH_ready (rs := [16]) (by kernel_rfl) (by simp) ?_
          refine AllReadyH.cons rfl (fun K hK => ?_) AllReadyH.nil
          go_simp
          refine (HINA.out _ _ _ _ HT4.out).mono ?_
          rintro e5 w5 ⟨rfl, rfl⟩
          go_wp2_with fail
          refine hK.out _ _ ?_ (fun hHeld => ?_)
          · (try dsimp only); exact ⟨d0, d5⟩
          clear hK K
          (try simp only [Act.put, List.setIfInBounds_toArray, List.set_cons_zero, List.set_cons_succ])
          refine wpAnyH_take (i := 17) (oi := ⟨some 37, _, _, _, _, _⟩) (v := ?_) rfl (by kernel_rfl) (by kernel_rfl) (by kernel_rfl) (fun _ _ _ h => h) (Or.inl ⟨by kernel_rfl, ?_⟩) (by assumption) ?_
          rotate_left
          · (intro ww hSw; (try dsimp only at hSw); go_simp); (try with_reducible rfl)
          (try simp only [Act.put, List.setIfInBounds_toArray, List.set_cons_zero, List.set_cons_succ])
          refine wpAnyH_done (by kernel_rfl) ?_ _
          go_wp2
          go_roundg gg
          case measure => omega
          case rel => exact ⟨k + 1, by go_num, by omega, HR2, HB4⟩
      · have g8 : (C[k].k == 8) = false := beq_eq_false_iff_ne.2 h8
        have HR2 := Lib.hid (HNX.out (eO_no hkL h8))
        clear h8 HR HYS
        generalize C[k].k = K at c0 g8
        go_wp2
        go_quiet (fail)
        go_wp2
        go_roundg gg
        case measure => omega
        case rel => exact ⟨k + 1, by go_num, by omega, HR2, Lib.hid (drew_below HB.out _)⟩
    · have HE0 : Hid (checkC C = 0) := Lib.hid (by rw [HE.out, if_neg]; rw [show C.length = k by rw [HL.out]; omega, HR.out]; simp)
      have k1 : ¬ (k : Int) < (n : Int) := by omega
      go_wp2
      go_ret
      exact ⟨by rw [HE0.out]; rfl, HB.out⟩

end Go.Proofs.YtiliobfgmelncaaGreat

namespace Go.Proofs.YtiliobfgmelncaaGreat
open Go.RowKit

theorem atE_is {C : List OpL} {i : Int} (h : resE C = 0) (h0 : 0 ≤ i) (h1 : i < (C.length : Int)) : atE C i = 0 := atE_ok h (by omega)
theorem resA_at {C : List OpL} {i : Nat} {r : ResL} (h : resE C = 0) (hi : i < C.length) (hr : (resA C)[i]? = some r) : r = resC C i := by
  rw [resA_is h] at hr
  have : (List.map (resC C) (List.range C.length))[i]? = some (resC C i) := by
    rw [List.getElem?_map, List.getElem?_range hi]; rfl
  rw [this] at hr
  injection hr with hr
  exact hr.symm
/- what InScope and Certain tell, in the document's words -/
theorem inT_names {C : List OpL} {i : Int} {cert : Bool} {L : List (List UInt8)} (h : atE C i = 0 → ∃ r, (resA C)[i.toNat]? = some r ∧ L = bif cert then r.ct else r.sc) (h0 : atE C i = 0) : resE C = 0 ∧ 0 ≤ i ∧ i < (C.length : Int) ∧ L = nmC C cert i.toNat := by
  have e0 : resE C = 0 := by
    by_cases c : resE C = 0
    · exact c
    · rw [atE_err c] at h0; exact absurd h0 c
  have hi : ¬ (i < 0 ∨ (C.length : Int) ≤ i) := fun c => by rw [atE_range e0 c] at h0; cases h0
  obtain ⟨r, hr, hL⟩ := h h0
  have := resA_at e0 (by omega) hr
  subst this
  refine ⟨e0, by omega, by omega, ?_⟩
  rw [hL]
  cases cert <;> rfl

set_option maxRecDepth 100000 in
set_option maxHeartbeats 8000000 in
theorem told_calls (C : List OpL) (hok : ∀ o ∈ C, OpOk o) (a : Option Addr) (n c : Nat) (i : Int) (cert : Bool) (L : List (List UInt8)) (la : Option Addr) (lc : Nat) (w : World) (hv : OpsA w a n c C) (hL : TxtA w la L.length lc L) (h1 : atE C i ≠ 0 → L = []) (h2 : atE C i = 0 → L = nmC C cert i.toNat) :
    Calls Tryz.prog 17 #[.slice la L.length lc, .int .i64 (atE C i), .slice a n c, .int .i64 i, .bool cert] w fun e w' => e = .returned (.bool true) ∧ Below w.heap.size w w' := by
  have HR := Lib.hid (rOCheck_calls C hok a n c w hv)
  rw [← resE_is] at HR
  have hn := hv.len
  by_cases h0 : resE C = 0
  · by_cases hr : i < 0 ∨ (C.length : Int) ≤ i
    · have hE := atE_range h0 hr
      have hLn := h1 (by rw [hE]; decide)
      subst hLn
      rw [h0] at HR
      rw [hE]
      clear h1 h2 hL hok hv h0 hE
      rw [hn] at hr
      clear hn
      by_cases hr0 : i < 0
      · clear hr
        go_enter Tryz.func17, Tryz.ntmps17
        go_wp2_with fail
        refine HR.out.mono ?_
        rintro e w1 ⟨rfl, hb⟩
        have HB := Lib.hid hb
        clear hb
        go_wp2
        go_ret
        exact ⟨rfl, HB.out⟩
      · have hr1 : i ≥ (n : Int) := by omega
        clear hr
        go_enter Tryz.func17, Tryz.ntmps17
        go_wp2_with fail
        refine HR.out.mono ?_
        rintro e w1 ⟨rfl, hb⟩
        have HB := Lib.hid hb
        clear hb
        go_wp2
        go_ret
        exact ⟨rfl, HB.out⟩
    · obtain ⟨hl, hs, _⟩ := resE_zero h0
      have hE := atE_ok h0 hr
      have hLn := h2 hE
      obtain ⟨k, rfl⟩ : ∃ k : Nat, i = (k : Int) := ⟨i.toNat, by omega⟩
      rw [Int.toNat_natCast] at hLn
      have HN := Lib.hid (fun (W : World) (hb : Below w.heap.size w W) => rNames_calls C hs cert a n c (by omega) (k + 1) k W (hv.on hb) (Nat.lt_succ_self k) (by omega))
      have hM : namesF C cert (k + 1) k = L := hLn.symm
      rw [hM] at HN
      have HT := Lib.hid (fun (W : World) (hb : Below w.heap.size w W) => hL.on hb)
      rw [h0] at HR
      rw [hE]
      have r0 : ¬ (k : Int) < 0 := by omega
      have r1 : ¬ (k : Int) ≥ (n : Int) := by omega
      clear h1 h2 hL hok hv h0 hE hr hl hs hLn hM hn
      go_enter Tryz.func17, Tryz.ntmps17
      go_wp2_with fail
      refine HR.out.mono ?_
      rintro e w1 ⟨rfl, hb⟩
      have HB := Lib.hid hb
      clear hb
      go_wp2_with fail
      refine (HN.out _ HB.out).mono ?_
      rintro e w2 ⟨a2, c2, rfl, ht2, hb2⟩
      have HB2 := Lib.hid (HB.out.trans (hb2.mono HB.out.size))
      have HS := Lib.hid (sameA_calls L L la a2 L.length L.length lc c2 w2 (HT.out _ HB2.out) ht2)
      rw [decide_eq_true rfl] at HS
      clear hb2 ht2
      go_wp2_with fail
      refine HS.out.mono ?_
      rintro e w3 ⟨rfl, hb3⟩
      have HB3 := Lib.hid (HB2.out.trans (hb3.mono HB2.out.size))
      clear hb3
      go_wp2
      go_ret
      exact ⟨rfl, HB3.out⟩
  · have hE := atE_err (i := i) h0
    have hLn := h1 (by rw [hE]; exact h0)
    subst hLn
    rw [hE]
    clear h1 h2 hL hok hv hE hn
    generalize resE C = E at h0 HR
    have e0 : (E == 0) = false := beq_eq_false_iff_ne.2 h0
    have e1 : (E != 0) = true := bne_iff_ne.2 h0
    go_enter Tryz.func17, Tryz.ntmps17
    go_wp2_with fail
    refine HR.out.mono ?_
    rintro e w1 ⟨rfl, hb⟩
    have HB := Lib.hid hb
    clear hb
    go_wp2
    go_ret
    exact ⟨rfl, HB.out⟩

end Go.Proofs.YtiliobfgmelncaaGreat

namespace Go.Proofs.YtiliobfgmelncaaGreat
open Go.RowKit

def bigB (n : Nat) : Bool := decide (24 < n ∧ n ≤ 128)
set_option maxRecDepth 100000 in
set_option maxHeartbeats 4000000 in
theorem big_calls (a : Option Addr) (n c : Nat) (w : World) : Calls Tryz.prog 12 #[.slice a n c] w fun e w' => e = .returned (.bool (bigB n)) ∧ w' = w := by
  by_cases h1 : 24 < n
  · have e1 : (n : Int) > 24 := by omega
    by_cases h2 : n ≤ 128
    · have e2 : (n : Int) ≤ 128 := by omega
      have HE : Hid (bigB n = true) := Lib.hid (decide_eq_true (show 24 < n ∧ n ≤ 128 from ⟨h1, h2⟩))
      clear h1 h2
      go_enter Tryz.func12, Tryz.ntmps12
      go_wp2
      go_ret
      exact ⟨by rw [HE.out]; rfl, rfl⟩
    · have e2 : ¬ (n : Int) ≤ 128 := by omega
      have HE : Hid (bigB n = false) := Lib.hid (decide_eq_false (show ¬ (24 < n ∧ n ≤ 128) from fun c => h2 c.2))
      clear h1 h2
      go_enter Tryz.func12, Tryz.ntmps12
      go_wp2
      go_ret
      exact ⟨by rw [HE.out]; rfl, rfl⟩
  · have e1 : ¬ (n : Int) > 24 := by omega
    have HE : Hid (bigB n = false) := Lib.hid (decide_eq_false (show ¬ (24 < n ∧ n ≤ 128) from fun c => h1 c.1))
    clear h1
    go_enter Tryz.func12, Tryz.ntmps12
    go_wp2
    go_ret
    exact ⟨by rw [HE.out]; rfl, rfl⟩

end Go.Proofs.YtiliobfgmelncaaGreat
