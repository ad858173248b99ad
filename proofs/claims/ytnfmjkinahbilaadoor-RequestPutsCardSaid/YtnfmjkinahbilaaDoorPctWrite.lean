/- Package percent's Write: pairs, written (written by gen/mkpctwrite.py). -/
import Derived.Test.YtnfmjkinahbilaaDoorPctEnc
import Derived.Test.YtnfmjkinahbilaaDoorRPctWrite
import Derived.Deep.RegionHeld3
namespace Go.Proofs.YtnfmjkinahbilaaDoor
open Go.RowKit

theorem cellX {w w' : World} {G g o : Nat} {v : Value} (h : w.cell? ⟨g, o, none⟩ = some v) (hg : w.grownBy w' (some G)) (hlt : g < w.heap.size) (hne : g ≠ G) : w'.cell? ⟨g, o, none⟩ = some v := by
  have e := hg.block g hlt (fun c => hne (by injection c))
  unfold World.cell? at h ⊢
  dsimp only at h ⊢
  rw [e]; exact h
theorem encB (l : List UInt8) (h : l.length ≤ 1048576) (E : ByteArray) (hE : bs (encS l) = E) (W : World) : Calls Tryd.prog 21 #[.string (bs l)] W fun e w' => e = .returned (.string E) ∧ Below W.heap.size W w' := by
  subst hE
  exact pEncode_calls (bs l) W (by rw [bs_size]; omega)

set_option maxRecDepth 100000 in
set_option maxHeartbeats 1000000 in
theorem pWrite_long (a : Option Addr) (n c : Nat) (w : World) (h6 : 64 < n) :
    Calls Tryd.prog 14 #[.slice a n c] w fun e w' => e = .returned (.tuple #[.string ⟨#[]⟩, .int .i64 3]) ∧ w' = w := by
  have k6 : (64 : Int) < (n : Int) := by omega
  go_enter Tryd.func14, Tryd.ntmps14
  go_wp2
  go_ret2
  exact ⟨rfl, rfl⟩

set_option maxRecDepth 100000 in
set_option maxHeartbeats 4000000 in
theorem pWrite_calls (L : List PairL) (a : Option Addr) (n c : Nat) (w : World) (ha : PrA w a n c L) (hM : ∀ p ∈ L, p.k.length ≤ 1048576 ∧ p.v.length ≤ 1048576) (h6 : n ≤ 64) :
    Calls Tryd.prog 14 #[.slice a n c] w fun e w' => e = .returned (.tuple #[.string (bs (wrS L)), .int .i64 0]) ∧ Below w.heap.size w w' := by
  obtain ⟨i0, hi, hz0, hz1, hz2⟩ := info_parts info_text
  have HA := Lib.hid ha
  have HL := Lib.hid ha.len
  have HM := Lib.hid hM
  have hc := ha.cap; have hm := ha.most
  unfold maxLen at hm
  obtain ⟨G, hG⟩ : ∃ G, w.heap.size = G := ⟨_, rfl⟩
  have HG := Lib.hid hG
  have k6 : ¬ (64 : Int) < (n : Int) := by omega
  clear ha hM hG
  go_enter Tryd.func14, Tryd.ntmps14
  go_wp2_with (refine make_abs (.tmp 11) (.tmp 11) 50 ⟨rfl, rfl⟩ 9 i0 (.string ⟨#[]⟩) 1 Tryd.underlying50 hi hz0 hz1 .i64 .i64 n rfl rfl (by rw [hz2]; omega) (by unfold maxLen; omega) G HG.out ?_; intro W0 hK0 hB0)
  have HK0 := Lib.hid (show Blk W0 G 9 (partsV L 0).toArray by have := hK0.out; rw [made_texts, ← HL.out, ← parts_none] at this; exact this)
  have HB0 := hB0
  clear hK0 hB0
  go_loopg [15] n (fun g i wr => ∃ k : Nat, i = .int .i64 k ∧ k + g = n ∧ Hid (Blk wr G 9 (partsV L k).toArray) ∧ Hid (Below w.heap.size w wr))
  case atStart => exact ⟨0, rfl, by omega, HK0, HB0⟩
  case round =>
    clear HK0 HB0
    obtain ⟨W1, rfl⟩ : ∃ W1, W1 = wr := ⟨_, rfl⟩
    obtain ⟨k, rfl, hkg, HK, HB⟩ := hrel
    have k0 : (0 : Int) ≤ (k : Int) := by omega
    by_cases hk : k < n
    · obtain ⟨gg, rfl⟩ : ∃ gg, gk = gg + 1 := ⟨gk - 1, by omega⟩
      have hkL : k < L.length := by rw [HL.out]; exact hk
      obtain ⟨g, o, rfl, hg, hcells⟩ := HA.out.cells (by omega)
      obtain ⟨c0, c1⟩ := (hcells k hkL).on HB.out hg
      obtain ⟨hmk, hmv⟩ := HM.out L[k] (List.getElem_mem hkL)
      have e1 := encS_len L[k].k
      have e2 := encS_len L[k].v
      obtain ⟨A, hA⟩ : ∃ A, bs (encS L[k].k) = A := ⟨_, rfl⟩
      obtain ⟨B, hB⟩ : ∃ B, bs (encS L[k].v) = B := ⟨_, rfl⟩
      have hAs : A.size ≤ 3145728 := by rw [← hA, bs_size]; omega
      have hBs : B.size ≤ 3145728 := by rw [← hB, bs_size]; omega
      have HV := Lib.hid (show bs (wr1 L[k]) = A ++ ⟨#[61]⟩ ++ B by rw [wr_bs, hA, hB])
      have HPN := Lib.hid (parts_next L k hkL)
      rw [HV.out] at HPN
      have HEA := Lib.hid (encB L[k].k hmk A hA)
      have HEB := Lib.hid (encB L[k].v hmv B hB)
      have s2 : (A ++ (⟨#[61]⟩ : ByteArray)).size = A.size + 1 := ByteArray.size_append
      have q2 : ∀ W : World, (Op.stringOp .add A ⟨#[61]⟩).run Tryd.prog W = .ok (.string (A ++ (⟨#[61]⟩ : ByteArray))) W := fun W => run_string_add_sum W _ _ (by show _ + 1 ≤ 9223372036854775807; omega)
      have q3 : ∀ W : World, (Op.stringOp .add (A ++ (⟨#[61]⟩ : ByteArray)) B).run Tryd.prog W = .ok (.string (A ++ (⟨#[61]⟩ : ByteArray) ++ B)) W := fun W => run_string_add_sum W _ _ (by rw [s2]; omega)
      have k1 : (k : Int) < (n : Int) := by omega
      obtain ⟨X, hX⟩ : ∃ X, W1.heap.size = X := ⟨_, rfl⟩
      obtain ⟨W2, hW2⟩ : ∃ W2, W1.alloc (.cells #[.string (bs L[k].k), .string (bs L[k].v)] 38) = W2 := ⟨_, rfl⟩
      have HBX := Lib.hid (show Blk W2 X 38 #[.string (bs L[k].k), .string (bs L[k].v)] by rw [← hW2, ← hX]; exact blk_new _ _ _)
      have HB2 := Lib.hid (show Below w.heap.size w W2 by rw [← hW2]; exact HB.out.alloc HB.out.size _)
      have HK2 := Lib.hid (show Blk W2 G 9 (partsV L k).toArray by rw [← hW2]; exact blk_alloc HK.out _)
      have HXG := Lib.hid (show X ≠ G by have := blk_lt HK.out; omega)
      have HPL := Lib.hid (parts_length L k (Nat.le_of_lt hkL))
      clear hcells hmk hmv e1 e2 hA hB s2 HK HB
      generalize bs L[k].k = sk at c0 HEA HBX hW2
      generalize bs L[k].v = sv at c1 HEB HBX hW2
      have HSA := Lib.hid (show W2.cell? ⟨X, 0, none⟩ = some (.string sk) ∧ W2.cell? ⟨X, 1, none⟩ = some (.string sv) from ⟨(blk_cell HBX.out 0).trans rfl, (blk_cell HBX.out 1).trans rfl⟩)
      have HXL := Lib.hid (blk_lt HBX.out)
      have HX := Lib.hid hX
      have HW2 := Lib.hid hW2
      clear hX hW2
      go_wp2_with fail
      rw [HW2.out, HX.out]
      refine wp_region_held_drew (S := (fun W => W.cell? ⟨X, 0, none⟩ = some (.string sk) ∧ W.cell? ⟨X, 1, none⟩ = some (.string sv))) (by kernel_rfl) ?_ (fun hHeld => ?_)
      · (try dsimp only); exact HSA.out
      obtain ⟨Wd, hWd⟩ : ∃ Wd, W2.drew = Wd := ⟨_, rfl⟩
      rw [hWd] at hHeld ⊢
      have HBS := Lib.hid (show Below W2.heap.size W2 Wd by rw [← hWd]; exact (Below.refl _ _).drew)
      clear hWd
      refine wpAnyH_take (i := 0) (oi := ⟨some 20, _, _, _, _, _⟩) (v := ?_) rfl (by kernel_rfl) (by kernel_rfl) (by kernel_rfl) (fun _ _ _ h => h) (Or.inl ⟨by kernel_rfl, ?_⟩) (by assumption) ?_
      rotate_left
      · (intro ww hSw; (try dsimp only at hSw); go_simp); (try with_reducible rfl)
      (try simp only [Act.put, List.setIfInBounds_toArray, List.set_cons_zero, List.set_cons_succ])
      refine wpAnyH_take (i := 1) (oi := ⟨some 21, _, _, _, _, _⟩) (v := ?_) rfl (by kernel_rfl) (by kernel_rfl) (by kernel_rfl) (fun _ _ _ h => h) (Or.inl ⟨by kernel_rfl, ?_⟩) (by assumption) ?_
      rotate_left
      · (intro ww hSw; (try dsimp only at hSw); go_simp); (try with_reducible rfl)
      (try simp only [Act.put, List.setIfInBounds_toArray, List.set_cons_zero, List.set_cons_succ])
      refine wpAnyH_take (i := 2) (oi := ⟨some 22, _, _, _, _, _⟩) (v := ?_) rfl (by kernel_rfl) (by kernel_rfl) (by kernel_rfl) (fun _ _ _ h => h) (Or.inl ⟨by kernel_rfl, ?_⟩) (by assumption) ?_
      rotate_left
      · (intro ww hSw; (try dsimp only at hSw); go_simp); (try with_reducible rfl)
      (try simp only [Act.put, List.setIfInBounds_toArray, List.set_cons_zero, List.set_cons_succ])
      refine wpAnyH_take (i := 3) (oi := ⟨some 23, _, _, _, _, _⟩) (v := ?_) rfl (by kernel_rfl) (by kernel_rfl) (by kernel_rfl) (fun _ _ _ h => h) (Or.inl ⟨by kernel_rfl, ?_⟩) (by assumption) ?_
      rotate_left
      · (intro ww hSw; (try dsimp only at hSw); obtain ⟨d0, d1⟩ := hSw; go_simp); (try with_reducible rfl)
      (try simp only [Act.put, List.setIfInBounds_toArray, List.set_cons_zero, List.set_cons_succ])
      refine wpAnyH_take (i := 6) (oi := ⟨some 26, _, _, _, _, _⟩) (v := ?_) rfl (by kernel_rfl) (by kernel_rfl) (by kernel_rfl) (fun _ _ _ h => h) (Or.inl ⟨by kernel_rfl, ?_⟩) (by assumption) ?_
      rotate_left
      · (intro ww hSw; (try dsimp only at hSw); go_simp); (try with_reducible rfl)
      (try simp only [Act.put, List.setIfInBounds_toArray, List.set_cons_zero, List.set_cons_succ])
      refine wpAnyH_take (i := 7) (oi := ⟨some 27, _, _, _, _, _⟩) (v := ?_) rfl (by kernel_rfl) (by kernel_rfl) (by kernel_rfl) (fun _ _ _ h => h) (Or.inl ⟨by kernel_rfl, ?_⟩) (by assumption) ?_
      rotate_left
      · (intro ww hSw; (try dsimp only at hSw); obtain ⟨d0, d1⟩ := hSw; go_simp); (try with_reducible rfl)
      (try simp only [Act.put, List.setIfInBounds_toArray, List.set_cons_zero, List.set_cons_succ])
      refine wpAnyH_ready (rs := [4]) (by kernel_rfl) (by simp) ?_
      refine AllReadyH.cons rfl (fun K hK => ?_) AllReadyH.nil
      go_simp
      refine (HEA.out Wd).mono ?_
      rintro e W100 ⟨rfl, hb⟩
      have hbx : Below Wd.heap.size Wd W100 := hb
      clear hb
      replace HBS := Lib.hid (fb2 HBS.out hbx (Nat.le_refl _))
      clear hbx
      go_wp2_with fail
      refine hK.out _ _ ?_ (fun hHeld => ?_)
      · (try dsimp only); first | exact HSF.out | exact ⟨keptC HSA.out.1 HBS.out HXL.out, keptC HSA.out.2 HBS.out HXL.out⟩
      clear hK K
      (try simp only [Act.put, List.setIfInBounds_toArray, List.set_cons_zero, List.set_cons_succ])
      refine wpAnyH_take (i := 5) (oi := ⟨some 25, _, _, _, _, _⟩) (v := ?_) rfl (by kernel_rfl) (by kernel_rfl) (by kernel_rfl) (fun _ _ _ h => h) (Or.inl ⟨by kernel_rfl, ?_⟩) (by assumption) ?_
      rotate_left
      · (intro ww hSw; (try dsimp only at hSw); go_simp); (try with_reducible rfl)
      (try simp only [Act.put, List.setIfInBounds_toArray, List.set_cons_zero, List.set_cons_succ])
      refine wpAnyH_ready (rs := [8]) (by kernel_rfl) (by simp) ?_
      refine AllReadyH.cons rfl (fun K hK => ?_) AllReadyH.nil
      go_simp
      refine (HEB.out W100).mono ?_
      rintro e W101 ⟨rfl, hb⟩
      have hbx : Below W100.heap.size W100 W101 := hb
      clear hb
      replace HBS := Lib.hid (fb2 HBS.out hbx (Nat.le_refl _))
      clear hbx
      go_wp2_with fail
      refine hK.out _ _ ?_ (fun hHeld => ?_)
      · (try dsimp only); first | exact HSF.out | exact ⟨keptC HSA.out.1 HBS.out HXL.out, keptC HSA.out.2 HBS.out HXL.out⟩
      clear hK K
      (try simp only [Act.put, List.setIfInBounds_toArray, List.set_cons_zero, List.set_cons_succ])
      refine wpAnyH_take (i := 9) (oi := ⟨some 29, _, _, _, _, _⟩) (v := ?_) rfl (by kernel_rfl) (by kernel_rfl) (by kernel_rfl) (fun _ _ _ h => h) (Or.inl ⟨by kernel_rfl, ?_⟩) (by assumption) ?_
      rotate_left
      · (intro ww hSw; (try dsimp only at hSw); go_simp); (try with_reducible rfl)
      (try simp only [Act.put, List.setIfInBounds_toArray, List.set_cons_zero, List.set_cons_succ])
      refine wpAnyH_take (i := 10) (oi := ⟨some 30, _, _, _, _, _⟩) (v := ?_) rfl (by kernel_rfl) (by kernel_rfl) (by kernel_rfl) (fun _ _ _ h => h) (Or.inl ⟨by kernel_rfl, ?_⟩) (by assumption) ?_
      rotate_left
      · (intro ww hSw; (try dsimp only at hSw); go_simp); (try with_reducible rfl)
      (try simp only [Act.put, List.setIfInBounds_toArray, List.set_cons_zero, List.set_cons_succ])
      refine wpAnyH_ready (rs := [11]) (by kernel_rfl) (by simp) ?_
      refine AllReadyH.cons rfl (fun K hK => ?_) AllReadyH.nil
      refine wp_one_abs 9 (.tmp 30) (.tmp 29) rfl G k (.string (A ++ ⟨#[61]⟩ ++ B)) rfl rfl rfl rfl 9 (partsV L k) (blk_on HK2.out HBS.out (blk_lt HK2.out)) (by kernel_rfl) (by rw [HPL.out]; exact hkL) ?_
      intro W102 hK6 hg6
      rw [HPN.out] at hK6
      have HK6 := Lib.hid hK6
      have HSF := Lib.hid (show W102.cell? ⟨X, 0, none⟩ = some (.string sk) ∧ W102.cell? ⟨X, 1, none⟩ = some (.string sv) from ⟨cellX (keptC HSA.out.1 HBS.out HXL.out) hg6 (Nat.lt_of_lt_of_le HXL.out HBS.out.size) HXG.out, cellX (keptC HSA.out.2 HBS.out HXL.out) hg6 (Nat.lt_of_lt_of_le HXL.out HBS.out.size) HXG.out⟩)
      have HB6 := Lib.hid (show Below w.heap.size w W102 from (HB2.out.trans (HBS.out.mono HB2.out.size)).grown hg6 (by have h1 := HB2.out.size; have h2 := HBS.out.size; omega) (fun q hq => by injection hq with hq; have := HG.out; omega))
      clear hK6 hg6
      refine hK.out _ _ ?_ (fun hHeld => ?_)
      · (try dsimp only); first | exact HSF.out | exact ⟨keptC HSA.out.1 HBS.out HXL.out, keptC HSA.out.2 HBS.out HXL.out⟩
      clear hK K
      (try simp only [Act.put, List.setIfInBounds_toArray])
      refine wpAnyH_done (by kernel_rfl) ?_ _
      go_wp2
      go_roundg gg
      case measure => omega
      case rel => exact ⟨k + 1, by go_num, by omega, HK6, HB6⟩
    · have k1 : ¬ (k : Int) < (n : Int) := by omega
      have HPA := Lib.hid (parts_all L k (by rw [HL.out]; omega))
      have HJ := Lib.hid (show Calls Tryd.prog 22 #[.slice (some ⟨G, 0, none⟩) n n, .string ⟨#[38]⟩] W1 fun e w' => e = .returned (.string (bs (wrS L))) ∧ Below W1.heap.size W1 w' from by
        have em : (L.map (fun p => bs (wr1 p))).map (·.data.toList) = L.map wr1 := by rw [List.map_map]; rfl
        have hlen := wrS_len 1048576 L HM.out
        have h3 := Nat.mul_le_mul_right (6 * 1048576 + 2) (show L.length ≤ 64 by rw [HL.out]; exact h6)
        have h := Tryd.strings_Join G 0 n (L.map (fun p => bs (wr1 p))) ⟨#[38]⟩ W1 (fun j x hx => by
          have hb := blk_cell HK.out (0 + j)
          rw [HPA.out] at hb
          rw [hb, Nat.zero_add]
          rw [List.getElem?_map] at hx
          rw [List.getElem?_toArray, List.getElem?_map]
          cases hq : L[j]? with
          | none => rw [hq] at hx; cases hx
          | some p => rw [hq] at hx; injection hx with hx; subst hx; rfl) (blk_lt HK.out) (by rw [List.length_map, HL.out]; omega) (by rw [List.length_map, HL.out]; exact Nat.le_refl _) (by rw [em, show (ByteArray.mk #[38]).data.toList = [38] from rfl, join_wr]; omega)
        rw [em, show (ByteArray.mk #[38]).data.toList = [38] from rfl, join_wr, List.length_map, HL.out] at h
        exact h)
      clear hk hkg
      go_wp2_with fail
      refine HJ.out.mono ?_
      rintro e W2 ⟨rfl, hb⟩
      have HB2 := Lib.hid (fb2 HB.out hb (Nat.le_refl _))
      clear hb
      go_wp2
      go_ret2
      exact ⟨rfl, HB2.out⟩

end Go.Proofs.YtnfmjkinahbilaaDoor
