/- The law PoolOrder: it is true of any texts (written by gen/mklawpolorder.py). -/
import Derived.Test.YtheefhogphlkiaaPolAwake
import Derived.Test.YtheefhogphlkiaaPolRow
import Derived.Deep.RegionHeld3
namespace Go.Proofs.Ytheefhogphlkiaa
open Go.RowKit

/- texts as messages to an endpoint -/
def msgsL (L : List ByteArray) : List MsgL := L.map fun s => ⟨-1, 0, s⟩
theorem msgs_right (s : ByteArray) (h : s.size ≤ 65536) : rightM ⟨-1, 0, s⟩ = true := by unfold rightM; exact decide_eq_true ⟨.inl ⟨rfl, Int.le_refl 0, (by decide : (0 : Int) < 8)⟩, h⟩
theorem msgs_more (L : List ByteArray) (k : Nat) (hk : k < L.length) (h : L[k].size ≤ 65536) (h2 : k < 256) : sendE (msgsL (L.take k)) ⟨-1, 0, L[k]⟩ = 0 ∧ sendL (msgsL (L.take k)) ⟨-1, 0, L[k]⟩ = msgsL (L.take (k + 1)) := by
  have hl : (msgsL (L.take k)).length = k := by unfold msgsL; rw [List.length_map, List.length_take]; omega
  unfold sendE sendL
  rw [if_pos (msgs_right _ h), if_pos (msgs_right _ h), hl, if_neg (by omega), if_neg (by omega)]
  refine ⟨rfl, ?_⟩
  unfold msgsL
  rw [List.take_succ_eq_append_getElem hk, List.map_append]
  rfl
theorem msgs_first (L : List ByteArray) (k : Nat) (hk : k < L.length) : takeE (msgsL (L.drop k)) 0 = 0 ∧ takeM (msgsL (L.drop k)) 0 = ⟨-1, 0, L[k]⟩ ∧ takeL (msgsL (L.drop k)) 0 = msgsL (L.drop (k + 1)) := by
  have e : msgsL (L.drop k) = ⟨-1, 0, L[k]⟩ :: msgsL (L.drop (k + 1)) := by
    unfold msgsL
    rw [List.drop_eq_getElem_cons hk, List.map_cons]
  have hi : inB (msgsL (L.drop k)).length 0 = true := by
    unfold inB
    rw [e, List.length_cons]
    exact decide_eq_true ⟨Int.le_refl _, by omega⟩
  unfold takeE takeM takeL
  rw [if_pos hi, if_pos hi, if_pos hi, e]
  exact ⟨rfl, rfl, rfl⟩
theorem msgs_none : takeE (msgsL []) 0 = 4 ∧ takeM (msgsL []) 0 = noMsg ∧ takeL (msgsL []) 0 = [] := ⟨rfl, rfl, rfl⟩
def SentR (w : World) (L : List ByteArray) (P M : Nat) (i : Value) (wr : World) : Prop := ∃ k : Nat, k ≤ M ∧ i = .int .i64 k ∧ ∃ v, PoolT wr w.heap.size P v (msgsL (L.take k)) ∧ Below w.heap.size w wr
def TakenR (w : World) (L : List ByteArray) (P M : Nat) (i : Value) (wr : World) : Prop := ∃ k : Nat, k ≤ M ∧ i = .int .i64 k ∧ ∃ v, PoolT wr w.heap.size P v (msgsL ((L.take M).drop k)) ∧ Below w.heap.size w wr
theorem lenO_below (B P : Nat) (v : Value) (L : List MsgL) (w : World) (h : PoolT w B P v L) :
    Calls Try.prog 12 #[.pointer (some ⟨P, 0, none⟩)] w fun e w' => e = .returned (.int .i64 L.length) ∧ Below w.heap.size w w' :=
  (len_calls B P v L w h).mono fun e w' ⟨h1, h2⟩ => ⟨h1, by rw [h2]; exact Below.refl _ _⟩

set_option maxRecDepth 100000 in
set_option maxHeartbeats 8000000 in
theorem poolOrder_calls (L : List ByteArray) (v : Value) (w : World) (hv : ArgS w v L) :
    Calls Try.prog 5 #[v] w fun e w' => e = .returned (.bool true) ∧ Below w.heap.size w w' := by
  obtain ⟨fa, fc, rfl, hcap, hf⟩ := hv
  obtain ⟨N, hN⟩ : ∃ N, L.length = N := ⟨_, rfl⟩
  have HF := Lib.hid (show 0 < N → ∃ g o, fa = some ⟨g, o, none⟩ ∧ g < w.heap.size ∧ ∀ j (h : j < L.length), w.cell? ⟨g, o + j, none⟩ = some (.string L[j]) from fun h0 => hf (by rw [hN]; exact h0))
  rw [hN] at hcap ⊢
  have HN := Lib.hid hN
  clear hN hf
  obtain ⟨P, hP⟩ : ∃ P, w.heap.size = P := ⟨_, rfl⟩
  obtain ⟨W1, hW1⟩ : ∃ W1, w.alloc (.cells #[.slice none 0 0] 55) = W1 := ⟨_, rfl⟩
  have HP1 := Lib.hid (show PoolT W1 w.heap.size P (.slice none 0 0) [] by rw [← hW1, ← hP]; exact new_pool w _ (Nat.le_refl _))
  have HB1 := Lib.hid (show Below w.heap.size w W1 by rw [← hW1]; exact box_below _ _)
  have HST := Lib.hid (fun M => show SentR w L P M (.int .i64 0) W1 from ⟨0, Nat.zero_le _, rfl, _, HP1.out, HB1.out⟩)
  have HW1 := Lib.hid hW1
  have HPE := Lib.hid hP
  have HMO := Lib.hid (fun k hk h h2 => msgs_more L k hk h h2)
  clear hP hW1
  by_cases h200 : N ≤ 200
  · have f1 : ¬ (200 : Int) < (N : Int) := by omega
    go_enter Try.func5, Try.ntmps5
    go_wp2_with fail
    refine (new_calls _).mono ?_
    rintro e w1 ⟨rfl, rfl⟩
    rw [HW1.out, HPE.out]
    go_wp2
    go_loopw [4] (fun i wr => SentR w L P N i wr) (fun i _ => N - (intOf i).toNat)
    case atStart => exact HST.out N
    case round =>
      clear HST
      obtain ⟨k, hk, rfl, pv, hpool, hbw⟩ := hrel
      have g1 : (0 : Int) ≤ (k : Int) := by omega
      have HPO := Lib.hid hpool
      have HB := Lib.hid hbw
      clear hpool hbw
      by_cases hlt : k < N
      · have g2 : (k : Int) < (N : Int) := by omega
        have hkL : k < L.length := by rw [HN.out]; omega
        obtain ⟨g, o, rfl, hg, hrow⟩ := HF.out (by omega)
        have HGW := Lib.hid hg
        have hgr : g < wr.heap.size := Nat.lt_of_lt_of_le hg HB.out.size
        have c0 := keptC (hrow k hkL) HB.out hg
        have hmo := HMO.out k hkL
        generalize L[k] = s at c0 hmo
        clear hrow
        by_cases hs : s.size ≤ 65536
        · have g3 : ¬ (65536 : Int) < (s.size : Int) := by omega
          have HM := Lib.hid (hmo hs (by omega))
          have HS := Lib.hid (fun v W (hW : PoolT W w.heap.size P v (msgsL (L.take k))) => (show Calls Try.prog 17 #[.pointer (some ⟨P, 0, none⟩), .agg #[.int .i64 (-1), .int .i64 0, .string s]] W (PutT w.heap.size P v 0 (msgsL (L.take (k + 1))) W) from by
            have := send_calls w.heap.size P v (msgsL (L.take k)) ⟨-1, 0, s⟩ W hW
            rw [HM.out.1, HM.out.2] at this
            exact this))
          clear hmo hs
          go_wp2_with fail
          refine (message_calls _ _).mono ?_
          rintro e W3 ⟨rfl, hb⟩
          have HP3 := Lib.hid (pool_on HPO.out hb)
          have HB3 := Lib.hid (fb2 HB.out hb (Nat.le_refl _))
          clear hb c0
          go_wp2_with fail
          refine (HS.out _ _ HP3.out).mono ?_
          rintro e W4 ⟨rfl, v', hp, hm⟩
          have HP4 := Lib.hid hp
          have HB4 := Lib.hid (HB3.out.trans (moved_below HP3.out hm))
          clear hp hm hgr
          go_wp2
          go_roundw
          case rel => exact ⟨k + 1, by omega, by go_num, v', HP4.out, HB4.out⟩
          case measure => simp [intOf]; omega
        · have g3 : (65536 : Int) < (s.size : Int) := by omega
          clear hmo hs
          go_wp2_with fail
          refine (awake_calls _).mono ?_
          rintro e W5 ⟨rfl, hb⟩
          have hb5 := fb2 HB.out hb (Nat.le_refl _)
          go_wp2
          go_ret
          exact ⟨rfl, hb5⟩
      · have g2 : ¬ (k : Int) < (N : Int) := by omega
        have hkM : k = N := by omega
        rw [hkM] at HPO
        have HST := Lib.hid (show TakenR w L P N (.int .i64 0) wr from ⟨0, Nat.zero_le _, rfl, pv, HPO.out, HB.out⟩)
        clear hk hkM hlt g1 HPO HB HP1 HB1
        go_wp2
        clear g2
        go_loopw [5] (fun i wr => TakenR w L P N i wr) (fun i _ => N - (intOf i).toNat)
        case atStart => exact HST.out
        case round =>
          clear HST
          rename_i wr0
          obtain ⟨k, hk, rfl, pv, hpool, hbw⟩ := hrel
          have g1 : (0 : Int) ≤ (k : Int) := by omega
          have HPO := Lib.hid hpool
          have HB := Lib.hid hbw
          clear hpool hbw
          by_cases hlt : k < N
          · have g2 : (k : Int) < (N : Int) := by omega
            have hkL : k < L.length := by rw [HN.out]; omega
            have hkT : k < (L.take N).length := by rw [List.length_take]; omega
            obtain ⟨g, o, rfl, hg, hrow⟩ := HF.out (by omega)
            have HGW := Lib.hid hg
            have HC0 := Lib.hid (hrow k hkL)
            have hfi := msgs_first (L.take N) k hkT
            rw [List.getElem_take] at hfi
            generalize L[k] = s at HC0 hfi
            have HFI := Lib.hid hfi
            have HT := Lib.hid (fun v W (hW : PoolT W w.heap.size P v (msgsL ((L.take N).drop k))) => (show Calls Try.prog 20 #[.pointer (some ⟨P, 0, none⟩), .int .i64 0] W (TakeT w.heap.size P v ⟨-1, 0, s⟩ 0 (msgsL ((L.take N).drop (k + 1))) W) from by
              have := take_calls w.heap.size P v (msgsL ((L.take N).drop k)) 0 W hW
              rw [HFI.out.1, HFI.out.2.1, HFI.out.2.2] at this
              exact this))
            have hq := fun W => neql_msg ⟨-1, 0, s⟩ ⟨-1, 0, s⟩ W
            rw [meq_self] at hq
            have HQ := Lib.hid hq
            clear hrow hkT hfi hq
            go_wp2_with fail
            refine (HT.out _ _ HPO.out).mono ?_
            rintro e W3 ⟨rfl, v', hp, hm⟩
            have HB3 := Lib.hid (HB.out.trans (moved_below HPO.out hm))
            obtain ⟨Y, hY⟩ : ∃ Y, W3.heap.size = Y := ⟨_, rfl⟩
            obtain ⟨W4, hW4⟩ : ∃ W4, W3.alloc (.cells #[.int .i64 (-1), .int .i64 0, .string s] 29) = W4 := ⟨_, rfl⟩
            have HB4 := Lib.hid (show Below w.heap.size w W4 by rw [← hW4]; exact HB3.out.alloc HB3.out.size _)
            have HP4 := Lib.hid (show PoolT W4 w.heap.size P v' _ by rw [← hW4]; exact pool_on hp (box_below _ _))
            have HK4 := Lib.hid (show Blk W4 Y 29 #[.int .i64 (-1), .int .i64 0, .string s] by rw [← hW4, ← hY]; exact blk_new _ _ _)
            have HG4 := Lib.hid (show g < W4.heap.size from Nat.lt_of_lt_of_le HGW.out HB4.out.size)
            have HM4 := Lib.hid (show Msg3 W4 Y 0 ⟨-1, 0, s⟩ from ⟨(blk_cell HK4.out 0).trans rfl, (blk_cell HK4.out 1).trans rfl, (blk_cell HK4.out 2).trans rfl⟩)
            have HYL := Lib.hid (blk_lt HK4.out)
            have HW4 := Lib.hid hW4
            have HY := Lib.hid hY
            clear hp hm hW4 hY
            go_wp2_with fail
            rw [HW4.out, HY.out]
            refine wp_region_held_drew (S := (fun W => Below W4.heap.size W4 W)) (by kernel_rfl) ?_ (fun hHeld => ?_)
            · (try dsimp only); exact (Below.refl _ _).drew
            obtain ⟨Wd, hWd⟩ : ∃ Wd, W4.drew = Wd := ⟨_, rfl⟩
            rw [hWd] at hHeld ⊢
            have HBS := Lib.hid (show Below W4.heap.size W4 Wd by rw [← hWd]; exact (Below.refl _ _).drew)
            clear hWd
            refine wpAnyH_take (i := 0) (oi := ⟨some 50, _, _, _, _, _⟩) (v := ?_) rfl (by kernel_rfl) (by kernel_rfl) (by kernel_rfl) (fun _ _ _ h => h) (Or.inl ⟨by kernel_rfl, ?_⟩) (by assumption) ?_
            rotate_left
            · (intro ww hSw; (try dsimp only at hSw); go_simp); (try with_reducible rfl)
            (try simp only [Act.put, List.setIfInBounds_toArray, List.set_cons_zero, List.set_cons_succ])
            refine wpAnyH_take (i := 1) (oi := ⟨some 51, _, _, _, _, _⟩) (v := ?_) rfl (by kernel_rfl) (by kernel_rfl) (by kernel_rfl) (fun _ _ _ h => h) (Or.inl ⟨by kernel_rfl, ?_⟩) (by assumption) ?_
            rotate_left
            · (intro ww hSw; (try dsimp only at hSw); go_simp); (try with_reducible rfl)
            (try simp only [Act.put, List.setIfInBounds_toArray, List.set_cons_zero, List.set_cons_succ])
            refine wpAnyH_take (i := 2) (oi := ⟨some 52, _, _, _, _, _⟩) (v := ?_) rfl (by kernel_rfl) (by kernel_rfl) (by kernel_rfl) (fun _ _ _ h => h) (Or.inl ⟨by kernel_rfl, ?_⟩) (by assumption) ?_
            rotate_left
            · (intro ww hSw; (try dsimp only at hSw); go_simp); (try with_reducible rfl)
            (try simp only [Act.put, List.setIfInBounds_toArray, List.set_cons_zero, List.set_cons_succ])
            refine wpAnyH_take (i := 3) (oi := ⟨some 53, _, _, _, _, _⟩) (v := ?_) rfl (by kernel_rfl) (by kernel_rfl) (by kernel_rfl) (fun _ _ _ h => h) (Or.inl ⟨by kernel_rfl, ?_⟩) (by assumption) ?_
            rotate_left
            · (intro ww hSw; (try dsimp only at hSw); obtain ⟨d0, d1, d2⟩ := HM4.out.on hSw HYL.out; simp only [Nat.zero_add] at d1 d2; go_simp); (try with_reducible rfl)
            (try simp only [Act.put, List.setIfInBounds_toArray, List.set_cons_zero, List.set_cons_succ])
            refine wpAnyH_take (i := 4) (oi := ⟨some 54, _, _, _, _, _⟩) (v := ?_) rfl (by kernel_rfl) (by kernel_rfl) (by kernel_rfl) (fun _ _ _ h => h) (Or.inl ⟨by kernel_rfl, ?_⟩) (by assumption) ?_
            rotate_left
            · (intro ww hSw; (try dsimp only at hSw); go_simp); (try with_reducible rfl)
            (try simp only [Act.put, List.setIfInBounds_toArray, List.set_cons_zero, List.set_cons_succ])
            refine wpAnyH_take (i := 5) (oi := ⟨some 55, _, _, _, _, _⟩) (v := ?_) rfl (by kernel_rfl) (by kernel_rfl) (by kernel_rfl) (fun _ _ _ h => h) (Or.inl ⟨by kernel_rfl, ?_⟩) (by assumption) ?_
            rotate_left
            · (intro ww hSw; (try dsimp only at hSw); go_simp); (try with_reducible rfl)
            (try simp only [Act.put, List.setIfInBounds_toArray, List.set_cons_zero, List.set_cons_succ])
            refine wpAnyH_take (i := 6) (oi := ⟨some 56, _, _, _, _, _⟩) (v := ?_) rfl (by kernel_rfl) (by kernel_rfl) (by kernel_rfl) (fun _ _ _ h => h) (Or.inl ⟨by kernel_rfl, ?_⟩) (by assumption) ?_
            rotate_left
            · (intro ww hSw; (try dsimp only at hSw); go_simp); (try with_reducible rfl)
            (try simp only [Act.put, List.setIfInBounds_toArray, List.set_cons_zero, List.set_cons_succ])
            refine wpAnyH_take (i := 7) (oi := ⟨some 57, _, _, _, _, _⟩) (v := ?_) rfl (by kernel_rfl) (by kernel_rfl) (by kernel_rfl) (fun _ _ _ h => h) (Or.inl ⟨by kernel_rfl, ?_⟩) (by assumption) ?_
            rotate_left
            · (intro ww hSw; (try dsimp only at hSw); have d0 := keptC HC0.out (HB4.out.trans (hSw.mono HB4.out.size)) HGW.out; have hgl := Nat.lt_of_lt_of_le HG4.out hSw.size; go_simp); (try with_reducible rfl)
            (try simp only [Act.put, List.setIfInBounds_toArray, List.set_cons_zero, List.set_cons_succ])
            refine wpAnyH_ready (rs := [8]) (by kernel_rfl) (by simp) ?_
            refine AllReadyH.cons rfl (fun K hK => ?_) AllReadyH.nil
            go_simp
            refine (message_calls _ Wd).mono ?_
            rintro e W100 ⟨rfl, hb⟩
            have hbx : Below Wd.heap.size Wd W100 := hb
            clear hb
            replace HBS := Lib.hid (fb2 HBS.out hbx (Nat.le_refl _))
            clear hbx
            go_wp2_with fail
            refine hK.out _ _ ?_ (fun hHeld => ?_)
            · (try dsimp only); exact HBS.out
            clear hK K
            (try simp only [Act.put, List.setIfInBounds_toArray, List.set_cons_zero, List.set_cons_succ])
            refine wpAnyH_take (i := 9) (oi := ⟨some 59, _, _, _, _, _⟩) (v := ?_) rfl (by kernel_rfl) (by kernel_rfl) (by kernel_rfl) (fun _ _ _ h => h) (Or.inl ⟨by kernel_rfl, ?_⟩) (by assumption) ?_
            rotate_left
            · (intro ww hSw; (try dsimp only at hSw); have hq := HQ.out ww; go_simp); (try with_reducible rfl)
            (try simp only [Act.put, List.setIfInBounds_toArray, List.set_cons_zero, List.set_cons_succ])
            refine wpAnyH_take (i := 10) (oi := ⟨some 60, _, _, _, _, _⟩) (v := ?_) rfl (by kernel_rfl) (by kernel_rfl) (by kernel_rfl) (fun _ _ _ h => h) (Or.inl ⟨by kernel_rfl, ?_⟩) (by assumption) ?_
            rotate_left
            · (intro ww hSw; (try dsimp only at hSw); go_simp); (try with_reducible rfl)
            (try simp only [Act.put, List.setIfInBounds_toArray, List.set_cons_zero, List.set_cons_succ])
            refine wpAnyH_done (by kernel_rfl) ?_ _
            go_wp2
            go_roundw
            case rel => exact ⟨k + 1, by omega, by go_num, v', pool_on HP4.out HBS.out, fb2 HB4.out HBS.out (Nat.le_refl _)⟩
            case measure => simp [intOf]; omega
          · have g2 : ¬ (k : Int) < (N : Int) := by omega
            have hkM : k = N := by omega
            rw [hkM, List.drop_eq_nil_of_le (show (L.take N).length ≤ N by rw [List.length_take]; omega)] at HPO
            have HT := Lib.hid (fun v W (hW : PoolT W w.heap.size P v (msgsL [])) => (show Calls Try.prog 20 #[.pointer (some ⟨P, 0, none⟩), .int .i64 0] W (TakeT w.heap.size P v ⟨0, 0, ⟨#[]⟩⟩ 4 [] W) from by
              have := take_calls w.heap.size P v (msgsL []) 0 W hW
              rw [msgs_none.1, msgs_none.2.1, msgs_none.2.2] at this
              exact this))
            clear hkM
            go_wp2_with fail
            refine (HT.out _ _ HPO.out).mono ?_
            rintro e W3 ⟨rfl, v', hp, hm⟩
            have HB3 := Lib.hid (HB.out.trans (moved_below HPO.out hm))
            have HP4 := Lib.hid (pool_on hp (box_below W3 (.cells #[.int .i64 0, .int .i64 0, .string ⟨#[]⟩] 29)))
            have HB4 := Lib.hid (HB3.out.alloc HB3.out.size (.cells #[.int .i64 0, .int .i64 0, .string ⟨#[]⟩] 29))
            clear hp hm
            go_wp2_with fail
            refine (lenO_below _ _ _ _ _ HP4.out).mono ?_
            rintro e W5 ⟨rfl, hb⟩
            have HB5 := Lib.hid (fb2 HB4.out hb (Nat.le_refl _))
            clear hb
            go_wp2_with fail
            refine (awake_calls _).mono ?_
            rintro e W6 ⟨rfl, hb⟩
            have HB6 := Lib.hid (fb2 HB5.out hb (Nat.le_refl _))
            clear hb
            go_wp2
            go_ret
            exact ⟨rfl, HB6.out⟩
  · have f1 : (200 : Int) < (N : Int) := by omega
    have f2 : (200 : Int) ≤ (fc : Int) := by omega
    go_enter Try.func5, Try.ntmps5
    go_wp2_with fail
    refine (new_calls _).mono ?_
    rintro e w1 ⟨rfl, rfl⟩
    rw [HW1.out, HPE.out]
    go_wp2
    go_loopw [4] (fun i wr => SentR w L P 200 i wr) (fun i _ => 200 - (intOf i).toNat)
    case atStart => exact HST.out 200
    case round =>
      clear HST
      obtain ⟨k, hk, rfl, pv, hpool, hbw⟩ := hrel
      have g1 : (0 : Int) ≤ (k : Int) := by omega
      have HPO := Lib.hid hpool
      have HB := Lib.hid hbw
      clear hpool hbw
      by_cases hlt : k < 200
      · have g2 : (k : Int) < (200 : Int) := by omega
        have hkL : k < L.length := by rw [HN.out]; omega
        obtain ⟨g, o, rfl, hg, hrow⟩ := HF.out (by omega)
        have HGW := Lib.hid hg
        have hgr : g < wr.heap.size := Nat.lt_of_lt_of_le hg HB.out.size
        have c0 := keptC (hrow k hkL) HB.out hg
        have hmo := HMO.out k hkL
        generalize L[k] = s at c0 hmo
        clear hrow
        by_cases hs : s.size ≤ 65536
        · have g3 : ¬ (65536 : Int) < (s.size : Int) := by omega
          have HM := Lib.hid (hmo hs (by omega))
          have HS := Lib.hid (fun v W (hW : PoolT W w.heap.size P v (msgsL (L.take k))) => (show Calls Try.prog 17 #[.pointer (some ⟨P, 0, none⟩), .agg #[.int .i64 (-1), .int .i64 0, .string s]] W (PutT w.heap.size P v 0 (msgsL (L.take (k + 1))) W) from by
            have := send_calls w.heap.size P v (msgsL (L.take k)) ⟨-1, 0, s⟩ W hW
            rw [HM.out.1, HM.out.2] at this
            exact this))
          clear hmo hs
          go_wp2_with fail
          refine (message_calls _ _).mono ?_
          rintro e W3 ⟨rfl, hb⟩
          have HP3 := Lib.hid (pool_on HPO.out hb)
          have HB3 := Lib.hid (fb2 HB.out hb (Nat.le_refl _))
          clear hb c0
          go_wp2_with fail
          refine (HS.out _ _ HP3.out).mono ?_
          rintro e W4 ⟨rfl, v', hp, hm⟩
          have HP4 := Lib.hid hp
          have HB4 := Lib.hid (HB3.out.trans (moved_below HP3.out hm))
          clear hp hm hgr
          go_wp2
          go_roundw
          case rel => exact ⟨k + 1, by omega, by go_num, v', HP4.out, HB4.out⟩
          case measure => simp [intOf]; omega
        · have g3 : (65536 : Int) < (s.size : Int) := by omega
          clear hmo hs
          go_wp2_with fail
          refine (awake_calls _).mono ?_
          rintro e W5 ⟨rfl, hb⟩
          have hb5 := fb2 HB.out hb (Nat.le_refl _)
          go_wp2
          go_ret
          exact ⟨rfl, hb5⟩
      · have g2 : ¬ (k : Int) < (200 : Int) := by omega
        have hkM : k = 200 := by omega
        rw [hkM] at HPO
        have HST := Lib.hid (show TakenR w L P 200 (.int .i64 0) wr from ⟨0, Nat.zero_le _, rfl, pv, HPO.out, HB.out⟩)
        clear hk hkM hlt g1 HPO HB HP1 HB1
        go_wp2
        clear g2
        go_loopw [5] (fun i wr => TakenR w L P 200 i wr) (fun i _ => 200 - (intOf i).toNat)
        case atStart => exact HST.out
        case round =>
          clear HST
          rename_i wr0
          obtain ⟨k, hk, rfl, pv, hpool, hbw⟩ := hrel
          have g1 : (0 : Int) ≤ (k : Int) := by omega
          have HPO := Lib.hid hpool
          have HB := Lib.hid hbw
          clear hpool hbw
          by_cases hlt : k < 200
          · have g2 : (k : Int) < (200 : Int) := by omega
            have hkL : k < L.length := by rw [HN.out]; omega
            have hkT : k < (L.take 200).length := by rw [List.length_take]; omega
            obtain ⟨g, o, rfl, hg, hrow⟩ := HF.out (by omega)
            have HGW := Lib.hid hg
            have HC0 := Lib.hid (hrow k hkL)
            have hfi := msgs_first (L.take 200) k hkT
            rw [List.getElem_take] at hfi
            generalize L[k] = s at HC0 hfi
            have HFI := Lib.hid hfi
            have HT := Lib.hid (fun v W (hW : PoolT W w.heap.size P v (msgsL ((L.take 200).drop k))) => (show Calls Try.prog 20 #[.pointer (some ⟨P, 0, none⟩), .int .i64 0] W (TakeT w.heap.size P v ⟨-1, 0, s⟩ 0 (msgsL ((L.take 200).drop (k + 1))) W) from by
              have := take_calls w.heap.size P v (msgsL ((L.take 200).drop k)) 0 W hW
              rw [HFI.out.1, HFI.out.2.1, HFI.out.2.2] at this
              exact this))
            have hq := fun W => neql_msg ⟨-1, 0, s⟩ ⟨-1, 0, s⟩ W
            rw [meq_self] at hq
            have HQ := Lib.hid hq
            clear hrow hkT hfi hq
            go_wp2_with fail
            refine (HT.out _ _ HPO.out).mono ?_
            rintro e W3 ⟨rfl, v', hp, hm⟩
            have HB3 := Lib.hid (HB.out.trans (moved_below HPO.out hm))
            obtain ⟨Y, hY⟩ : ∃ Y, W3.heap.size = Y := ⟨_, rfl⟩
            obtain ⟨W4, hW4⟩ : ∃ W4, W3.alloc (.cells #[.int .i64 (-1), .int .i64 0, .string s] 29) = W4 := ⟨_, rfl⟩
            have HB4 := Lib.hid (show Below w.heap.size w W4 by rw [← hW4]; exact HB3.out.alloc HB3.out.size _)
            have HP4 := Lib.hid (show PoolT W4 w.heap.size P v' _ by rw [← hW4]; exact pool_on hp (box_below _ _))
            have HK4 := Lib.hid (show Blk W4 Y 29 #[.int .i64 (-1), .int .i64 0, .string s] by rw [← hW4, ← hY]; exact blk_new _ _ _)
            have HG4 := Lib.hid (show g < W4.heap.size from Nat.lt_of_lt_of_le HGW.out HB4.out.size)
            have HM4 := Lib.hid (show Msg3 W4 Y 0 ⟨-1, 0, s⟩ from ⟨(blk_cell HK4.out 0).trans rfl, (blk_cell HK4.out 1).trans rfl, (blk_cell HK4.out 2).trans rfl⟩)
            have HYL := Lib.hid (blk_lt HK4.out)
            have HW4 := Lib.hid hW4
            have HY := Lib.hid hY
            clear hp hm hW4 hY
            go_wp2_with fail
            rw [HW4.out, HY.out]
            refine wp_region_held_drew (S := (fun W => Below W4.heap.size W4 W)) (by kernel_rfl) ?_ (fun hHeld => ?_)
            · (try dsimp only); exact (Below.refl _ _).drew
            obtain ⟨Wd, hWd⟩ : ∃ Wd, W4.drew = Wd := ⟨_, rfl⟩
            rw [hWd] at hHeld ⊢
            have HBS := Lib.hid (show Below W4.heap.size W4 Wd by rw [← hWd]; exact (Below.refl _ _).drew)
            clear hWd
            refine wpAnyH_take (i := 0) (oi := ⟨some 50, _, _, _, _, _⟩) (v := ?_) rfl (by kernel_rfl) (by kernel_rfl) (by kernel_rfl) (fun _ _ _ h => h) (Or.inl ⟨by kernel_rfl, ?_⟩) (by assumption) ?_
            rotate_left
            · (intro ww hSw; (try dsimp only at hSw); go_simp); (try with_reducible rfl)
            (try simp only [Act.put, List.setIfInBounds_toArray, List.set_cons_zero, List.set_cons_succ])
            refine wpAnyH_take (i := 1) (oi := ⟨some 51, _, _, _, _, _⟩) (v := ?_) rfl (by kernel_rfl) (by kernel_rfl) (by kernel_rfl) (fun _ _ _ h => h) (Or.inl ⟨by kernel_rfl, ?_⟩) (by assumption) ?_
            rotate_left
            · (intro ww hSw; (try dsimp only at hSw); go_simp); (try with_reducible rfl)
            (try simp only [Act.put, List.setIfInBounds_toArray, List.set_cons_zero, List.set_cons_succ])
            refine wpAnyH_take (i := 2) (oi := ⟨some 52, _, _, _, _, _⟩) (v := ?_) rfl (by kernel_rfl) (by kernel_rfl) (by kernel_rfl) (fun _ _ _ h => h) (Or.inl ⟨by kernel_rfl, ?_⟩) (by assumption) ?_
            rotate_left
            · (intro ww hSw; (try dsimp only at hSw); go_simp); (try with_reducible rfl)
            (try simp only [Act.put, List.setIfInBounds_toArray, List.set_cons_zero, List.set_cons_succ])
            refine wpAnyH_take (i := 3) (oi := ⟨some 53, _, _, _, _, _⟩) (v := ?_) rfl (by kernel_rfl) (by kernel_rfl) (by kernel_rfl) (fun _ _ _ h => h) (Or.inl ⟨by kernel_rfl, ?_⟩) (by assumption) ?_
            rotate_left
            · (intro ww hSw; (try dsimp only at hSw); obtain ⟨d0, d1, d2⟩ := HM4.out.on hSw HYL.out; simp only [Nat.zero_add] at d1 d2; go_simp); (try with_reducible rfl)
            (try simp only [Act.put, List.setIfInBounds_toArray, List.set_cons_zero, List.set_cons_succ])
            refine wpAnyH_take (i := 4) (oi := ⟨some 54, _, _, _, _, _⟩) (v := ?_) rfl (by kernel_rfl) (by kernel_rfl) (by kernel_rfl) (fun _ _ _ h => h) (Or.inl ⟨by kernel_rfl, ?_⟩) (by assumption) ?_
            rotate_left
            · (intro ww hSw; (try dsimp only at hSw); go_simp); (try with_reducible rfl)
            (try simp only [Act.put, List.setIfInBounds_toArray, List.set_cons_zero, List.set_cons_succ])
            refine wpAnyH_take (i := 5) (oi := ⟨some 55, _, _, _, _, _⟩) (v := ?_) rfl (by kernel_rfl) (by kernel_rfl) (by kernel_rfl) (fun _ _ _ h => h) (Or.inl ⟨by kernel_rfl, ?_⟩) (by assumption) ?_
            rotate_left
            · (intro ww hSw; (try dsimp only at hSw); go_simp); (try with_reducible rfl)
            (try simp only [Act.put, List.setIfInBounds_toArray, List.set_cons_zero, List.set_cons_succ])
            refine wpAnyH_take (i := 6) (oi := ⟨some 56, _, _, _, _, _⟩) (v := ?_) rfl (by kernel_rfl) (by kernel_rfl) (by kernel_rfl) (fun _ _ _ h => h) (Or.inl ⟨by kernel_rfl, ?_⟩) (by assumption) ?_
            rotate_left
            · (intro ww hSw; (try dsimp only at hSw); go_simp); (try with_reducible rfl)
            (try simp only [Act.put, List.setIfInBounds_toArray, List.set_cons_zero, List.set_cons_succ])
            refine wpAnyH_take (i := 7) (oi := ⟨some 57, _, _, _, _, _⟩) (v := ?_) rfl (by kernel_rfl) (by kernel_rfl) (by kernel_rfl) (fun _ _ _ h => h) (Or.inl ⟨by kernel_rfl, ?_⟩) (by assumption) ?_
            rotate_left
            · (intro ww hSw; (try dsimp only at hSw); have d0 := keptC HC0.out (HB4.out.trans (hSw.mono HB4.out.size)) HGW.out; have hgl := Nat.lt_of_lt_of_le HG4.out hSw.size; go_simp); (try with_reducible rfl)
            (try simp only [Act.put, List.setIfInBounds_toArray, List.set_cons_zero, List.set_cons_succ])
            refine wpAnyH_ready (rs := [8]) (by kernel_rfl) (by simp) ?_
            refine AllReadyH.cons rfl (fun K hK => ?_) AllReadyH.nil
            go_simp
            refine (message_calls _ Wd).mono ?_
            rintro e W100 ⟨rfl, hb⟩
            have hbx : Below Wd.heap.size Wd W100 := hb
            clear hb
            replace HBS := Lib.hid (fb2 HBS.out hbx (Nat.le_refl _))
            clear hbx
            go_wp2_with fail
            refine hK.out _ _ ?_ (fun hHeld => ?_)
            · (try dsimp only); exact HBS.out
            clear hK K
            (try simp only [Act.put, List.setIfInBounds_toArray, List.set_cons_zero, List.set_cons_succ])
            refine wpAnyH_take (i := 9) (oi := ⟨some 59, _, _, _, _, _⟩) (v := ?_) rfl (by kernel_rfl) (by kernel_rfl) (by kernel_rfl) (fun _ _ _ h => h) (Or.inl ⟨by kernel_rfl, ?_⟩) (by assumption) ?_
            rotate_left
            · (intro ww hSw; (try dsimp only at hSw); have hq := HQ.out ww; go_simp); (try with_reducible rfl)
            (try simp only [Act.put, List.setIfInBounds_toArray, List.set_cons_zero, List.set_cons_succ])
            refine wpAnyH_take (i := 10) (oi := ⟨some 60, _, _, _, _, _⟩) (v := ?_) rfl (by kernel_rfl) (by kernel_rfl) (by kernel_rfl) (fun _ _ _ h => h) (Or.inl ⟨by kernel_rfl, ?_⟩) (by assumption) ?_
            rotate_left
            · (intro ww hSw; (try dsimp only at hSw); go_simp); (try with_reducible rfl)
            (try simp only [Act.put, List.setIfInBounds_toArray, List.set_cons_zero, List.set_cons_succ])
            refine wpAnyH_done (by kernel_rfl) ?_ _
            go_wp2
            go_roundw
            case rel => exact ⟨k + 1, by omega, by go_num, v', pool_on HP4.out HBS.out, fb2 HB4.out HBS.out (Nat.le_refl _)⟩
            case measure => simp [intOf]; omega
          · have g2 : ¬ (k : Int) < (200 : Int) := by omega
            have hkM : k = 200 := by omega
            rw [hkM, List.drop_eq_nil_of_le (show (L.take 200).length ≤ 200 by rw [List.length_take]; omega)] at HPO
            have HT := Lib.hid (fun v W (hW : PoolT W w.heap.size P v (msgsL [])) => (show Calls Try.prog 20 #[.pointer (some ⟨P, 0, none⟩), .int .i64 0] W (TakeT w.heap.size P v ⟨0, 0, ⟨#[]⟩⟩ 4 [] W) from by
              have := take_calls w.heap.size P v (msgsL []) 0 W hW
              rw [msgs_none.1, msgs_none.2.1, msgs_none.2.2] at this
              exact this))
            clear hkM
            go_wp2_with fail
            refine (HT.out _ _ HPO.out).mono ?_
            rintro e W3 ⟨rfl, v', hp, hm⟩
            have HB3 := Lib.hid (HB.out.trans (moved_below HPO.out hm))
            have HP4 := Lib.hid (pool_on hp (box_below W3 (.cells #[.int .i64 0, .int .i64 0, .string ⟨#[]⟩] 29)))
            have HB4 := Lib.hid (HB3.out.alloc HB3.out.size (.cells #[.int .i64 0, .int .i64 0, .string ⟨#[]⟩] 29))
            clear hp hm
            go_wp2_with fail
            refine (lenO_below _ _ _ _ _ HP4.out).mono ?_
            rintro e W5 ⟨rfl, hb⟩
            have HB5 := Lib.hid (fb2 HB4.out hb (Nat.le_refl _))
            clear hb
            go_wp2_with fail
            refine (awake_calls _).mono ?_
            rintro e W6 ⟨rfl, hb⟩
            have HB6 := Lib.hid (fb2 HB5.out hb (Nat.le_refl _))
            clear hb
            go_wp2
            go_ret
            exact ⟨rfl, HB6.out⟩

end Go.Proofs.Ytheefhogphlkiaa
