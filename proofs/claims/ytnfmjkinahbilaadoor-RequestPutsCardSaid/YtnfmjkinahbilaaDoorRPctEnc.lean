/- The document's own Encode of percent: every text, encoded (written by gen/mkpctenc.py). -/
import Derived.Test.YtnfmjkinahbilaaDoorPctLeaf
import Derived.Deep.LoopGhost
import Derived.Deep.RegionHeld3
namespace Go.Proofs.YtnfmjkinahbilaaDoor
open Go.RowKit

theorem enc_next {l : List UInt8} {k : Nat} (h : k < l.length) {O : List UInt8} (hO : O = encS (l.take k)) : O ++ enc1 l[k] = encS (l.take (k + 1)) := by rw [hO, encS_drop l k h]
theorem enc_take (l : List UInt8) (k : Nat) (h : l.length ≤ k) {O : List UInt8} (hO : O = encS (l.take k)) : O = encS l := by rw [hO, List.take_of_length_le h]
theorem enc_room (l : List UInt8) (k : Nat) {O : List UInt8} (hO : O = encS (l.take k)) : O.length ≤ 3 * l.length := by
  rw [hO]
  have := encS_len (l.take k)
  have h2 : (l.take k).length ≤ l.length := by rw [List.length_take]; omega
  omega
theorem rDigitB (n : Nat) (h : n < 16) (W : World) : Calls Tryd.prog 24 #[.int .i64 (n : Int)] W fun e w' => e = .returned (.int .u8 ((hexD n).toNat : Int)) ∧ Below W.heap.size W w' :=
  (rDigit_calls n h W).mono fun e w' ⟨he, hw⟩ => ⟨he, by rw [hw]; exact Below.refl _ _⟩
theorem cells_of_app {O E : List UInt8} : Lib.byteCells O ++ Lib.byteCells E = Lib.byteCells (O ++ E) := (Lib.byteCells_append O E).symm
theorem enc1_plain {b : UInt8} (h : plainZ (b.toNat : Int) = true) : enc1 b = [b] := by unfold enc1; rw [if_pos h]
theorem enc1_odd {b : UInt8} (h : plainZ (b.toNat : Int) = false) : enc1 b = [37, hexD (b.toNat / 16), hexD (b.toNat % 16)] := by unfold enc1; rw [h]; rfl

set_option maxRecDepth 100000 in
set_option maxHeartbeats 4000000 in
theorem rEncode_calls (s : ByteArray) (w : World) (hs : s.size ≤ 40000000000000) :
    Calls Tryd.prog 16 #[.string s] w fun e w' => e = .returned (.string (bs (encS s.data.toList))) ∧ Below w.heap.size w w' := by
  obtain ⟨i0, hi, hz0, hz1, hz2⟩ := info_parts info_byte
  have HSL := Lib.hid (show s.data.toList.length = s.size from (Lib.size_eq s).symm)
  have HMADE := Lib.hid (World.ownsRow_made (base := w.heap.size) (e := 5) (size := 1) w #[] 0 (Nat.le_refl _) (by unfold maxLen; omega) rfl)
  go_enter Tryd.func16, Tryd.ntmps16
  go_wp2
  go_loopg [3, 4] s.size (fun g v i wr => ∃ (k m : Nat) (O : List UInt8), i = .int .i64 k ∧ k + g = s.size ∧ O.length = m ∧ Hid (O = encS (s.data.toList.take k)) ∧ Hid (wr.ownsRow w.heap.size 5 1 v m (Lib.byteCells O)) ∧ Hid (Below w.heap.size w wr))
  case atStart => exact ⟨0, 0, [], rfl, by omega, rfl, Lib.hid rfl, HMADE, Lib.hid (box_below _ _)⟩
  case round =>
    obtain ⟨W1, rfl⟩ : ∃ W1, W1 = wr := ⟨_, rfl⟩
    obtain ⟨k, m, O, rfl, hkg, hm, HO, HOW, HB⟩ := hrel
    have hroom := enc_room s.data.toList k HO.out
    rw [HSL.out] at hroom
    by_cases hk : k < s.size
    · obtain ⟨gg, rfl⟩ : ∃ gg, gk = gg + 1 := ⟨gk - 1, by omega⟩
      have hkl : k < s.data.toList.length := by rw [HSL.out]; exact hk
      have hnx := enc_next hkl HO.out
      rw [get_list s k hk] at hnx
      have HNX := Lib.hid hnx
      have HP := Lib.hid (rPlain_calls s[k] W1)
      have HM := Lib.hid hm
      clear hnx hm
      cases hp : plainZ (s[k].toNat : Int) with
      | true =>
        have HN := Lib.hid (show O ++ [s[k]] = encS (s.data.toList.take (k + 1)) by rw [← HNX.out, enc1_plain hp])
        rw [hp] at HP
        clear hp HNX
        go_wp2_with fail
        refine HP.out.mono ?_
        rintro e W2 ⟨rfl, hb2⟩
        have HB2 := Lib.hid (fb2 HB.out hb2 (Nat.le_refl _))
        have HOW2 := Lib.hid (row_kept HOW.out hb2)
        have hml : m ≤ 120000000000000 := by have := HM.out; omega
        clear hb2 HB HOW HP
        go_wp2_with (at_builtin; (refine wpList_append_own _ rfl (.tmp 16) (.tmp 20) 52 rfl w.heap.size 5 i0 (.int .u8 0) 1 1 Tryd.underlying52 hi hz0 hz1 hz2 rfl (by decide) _ _ _ rfl (HOW2.out.alloc _) ⟨W2.heap.size, 0, none⟩ 1 1 [.int .u8 (s[k].toNat : Int)] rfl rfl (news_gen _ _ _ (by simp)) (by intro u hu; simp at hu; subst hu; rfl) (by unfold maxLen; omega) (by omega) (by have := HB2.out.size; simp; omega) ?_; intro v3 w3 ho3 hg3 _; have HO3 := Lib.hid ho3; have HG3 := Lib.hid hg3; clear ho3 hg3))
        go_roundg gg
        case measure => omega
        case rel => exact ⟨k + 1, m + 1, O ++ [s[k]], by go_num, by omega, by rw [List.length_append, HM.out]; rfl, HN, Lib.hid (by have := HO3.out; rw [show [Value.int .u8 (s[k].toNat : Int)] = Lib.byteCells [s[k]] from rfl, cells_of_app] at this; exact this), Lib.hid ((HB2.out.alloc HB2.out.size _).grown HG3.out (by have := HB2.out.size; simp; omega) (fun q hq => (HOW2.out.lt q hq).1))⟩
      | false =>
        have HN := Lib.hid (show O ++ [37, hexD (s[k].toNat / 16), hexD (s[k].toNat % 16)] = encS (s.data.toList.take (k + 1)) by rw [← HNX.out, enc1_odd hp])
        rw [hp] at HP
        clear hp HNX
        have hc : s[k].toNat < 256 := s[k].toNat_lt
        obtain ⟨q, hq⟩ : ∃ q : Nat, s[k].toNat / 16 = q := ⟨_, rfl⟩
        obtain ⟨r, hr⟩ : ∃ r : Nat, s[k].toNat % 16 = r := ⟨_, rfl⟩
        rw [hq, hr] at HN
        have HD1 := Lib.hid (rDigitB q (by omega))
        have HD2 := Lib.hid (rDigitB r (by omega))
        have e1 : IntKind.i64.wrap (s[k].toNat : Int) = (s[k].toNat : Int) := by rw [IntKind.wrap_i64]; omega
        have e2 : (s[k].toNat : Int).tdiv 16 = (q : Int) := by rw [Int.tdiv_eq_ediv_of_nonneg (by omega)]; omega
        have e2' : (s[k].toNat : Int) / 16 = (q : Int) := by omega
        have e3 : (s[k].toNat : Int).tmod 16 = (r : Int) := by rw [Int.tmod_eq_emod_of_nonneg (by omega)]; omega
        have e3' : (s[k].toNat : Int) % 16 = (r : Int) := by omega
        have e4 : IntKind.i64.wrap (q : Int) = (q : Int) := by rw [IntKind.wrap_i64]; omega
        have e5 : IntKind.i64.wrap (r : Int) = (r : Int) := by rw [IntKind.wrap_i64]; omega
        clear hq hr
        go_wp2_with fail
        refine HP.out.mono ?_
        rintro e W2 ⟨rfl, hb2⟩
        have HB2 := Lib.hid (fb2 HB.out hb2 (Nat.le_refl _))
        have HOW2 := Lib.hid (row_kept HOW.out hb2)
        have hml : m ≤ 120000000000000 := by have := HM.out; omega
        clear hb2 HB HOW HP hc
        go_wp2_with fail
        refine wp_region_held_drew (S := (fun W => Below w.heap.size w W)) (by kernel_rfl) ?_ (fun hHeld => ?_)
        · (try dsimp only); exact HB2.out.drew
        obtain ⟨Wd, hWd⟩ : ∃ Wd, W2.drew = Wd := ⟨_, rfl⟩
        rw [hWd] at hHeld ⊢
        have HBS := Lib.hid (show Below W2.heap.size W2 Wd by rw [← hWd]; exact (Below.refl _ _).drew)
        clear hWd
        refine wpAnyH_take (i := 0) (oi := ⟨some 22, _, _, _, _, _⟩) (v := ?_) rfl (by kernel_rfl) (by kernel_rfl) (by kernel_rfl) (fun _ _ _ h => h) (Or.inl ⟨by kernel_rfl, ?_⟩) (by assumption) ?_
        rotate_left
        · (intro ww hSw; (try dsimp only at hSw); go_simp); (try with_reducible rfl)
        (try simp only [Act.put, List.setIfInBounds_toArray, List.set_cons_zero, List.set_cons_succ])
        refine wpAnyH_take (i := 1) (oi := ⟨some 23, _, _, _, _, _⟩) (v := ?_) rfl (by kernel_rfl) (by kernel_rfl) (by kernel_rfl) (fun _ _ _ h => h) (Or.inl ⟨by kernel_rfl, ?_⟩) (by assumption) ?_
        rotate_left
        · (intro ww hSw; (try dsimp only at hSw); go_simp); (try with_reducible rfl)
        (try simp only [Act.put, List.setIfInBounds_toArray, List.set_cons_zero, List.set_cons_succ])
        refine wpAnyH_take (i := 2) (oi := ⟨some 24, _, _, _, _, _⟩) (v := ?_) rfl (by kernel_rfl) (by kernel_rfl) (by kernel_rfl) (fun _ _ _ h => h) (Or.inl ⟨by kernel_rfl, ?_⟩) (by assumption) ?_
        rotate_left
        · (intro ww hSw; (try dsimp only at hSw); go_simp); (try with_reducible rfl)
        (try simp only [Act.put, List.setIfInBounds_toArray, List.set_cons_zero, List.set_cons_succ])
        refine wpAnyH_take (i := 3) (oi := ⟨some 25, _, _, _, _, _⟩) (v := ?_) rfl (by kernel_rfl) (by kernel_rfl) (by kernel_rfl) (fun _ _ _ h => h) (Or.inl ⟨by kernel_rfl, ?_⟩) (by assumption) ?_
        rotate_left
        · (intro ww hSw; (try dsimp only at hSw); go_simp); (try with_reducible rfl)
        (try simp only [Act.put, List.setIfInBounds_toArray, List.set_cons_zero, List.set_cons_succ])
        refine wpAnyH_take (i := 4) (oi := ⟨some 26, _, _, _, _, _⟩) (v := ?_) rfl (by kernel_rfl) (by kernel_rfl) (by kernel_rfl) (fun _ _ _ h => h) (Or.inl ⟨by kernel_rfl, ?_⟩) (by assumption) ?_
        rotate_left
        · (intro ww hSw; (try dsimp only at hSw); go_simp); (try with_reducible rfl)
        (try simp only [Act.put, List.setIfInBounds_toArray, List.set_cons_zero, List.set_cons_succ])
        refine wpAnyH_take (i := 5) (oi := ⟨some 27, _, _, _, _, _⟩) (v := ?_) rfl (by kernel_rfl) (by kernel_rfl) (by kernel_rfl) (fun _ _ _ h => h) (Or.inl ⟨by kernel_rfl, ?_⟩) (by assumption) ?_
        rotate_left
        · (intro ww hSw; (try dsimp only at hSw); go_simp); (try with_reducible rfl)
        (try simp only [Act.put, List.setIfInBounds_toArray, List.set_cons_zero, List.set_cons_succ])
        refine wpAnyH_take (i := 7) (oi := ⟨some 29, _, _, _, _, _⟩) (v := ?_) rfl (by kernel_rfl) (by kernel_rfl) (by kernel_rfl) (fun _ _ _ h => h) (Or.inl ⟨by kernel_rfl, ?_⟩) (by assumption) ?_
        rotate_left
        · (intro ww hSw; (try dsimp only at hSw); go_simp); (try with_reducible rfl)
        (try simp only [Act.put, List.setIfInBounds_toArray, List.set_cons_zero, List.set_cons_succ])
        refine wpAnyH_take (i := 8) (oi := ⟨some 30, _, _, _, _, _⟩) (v := ?_) rfl (by kernel_rfl) (by kernel_rfl) (by kernel_rfl) (fun _ _ _ h => h) (Or.inl ⟨by kernel_rfl, ?_⟩) (by assumption) ?_
        rotate_left
        · (intro ww hSw; (try dsimp only at hSw); go_simp); (try with_reducible rfl)
        (try simp only [Act.put, List.setIfInBounds_toArray, List.set_cons_zero, List.set_cons_succ])
        refine wpAnyH_take (i := 9) (oi := ⟨some 31, _, _, _, _, _⟩) (v := ?_) rfl (by kernel_rfl) (by kernel_rfl) (by kernel_rfl) (fun _ _ _ h => h) (Or.inl ⟨by kernel_rfl, ?_⟩) (by assumption) ?_
        rotate_left
        · (intro ww hSw; (try dsimp only at hSw); go_simp); (try with_reducible rfl)
        (try simp only [Act.put, List.setIfInBounds_toArray, List.set_cons_zero, List.set_cons_succ])
        refine wpAnyH_take (i := 10) (oi := ⟨some 32, _, _, _, _, _⟩) (v := ?_) rfl (by kernel_rfl) (by kernel_rfl) (by kernel_rfl) (fun _ _ _ h => h) (Or.inl ⟨by kernel_rfl, ?_⟩) (by assumption) ?_
        rotate_left
        · (intro ww hSw; (try dsimp only at hSw); go_simp); (try with_reducible rfl)
        (try simp only [Act.put, List.setIfInBounds_toArray, List.set_cons_zero, List.set_cons_succ])
        refine wpAnyH_take (i := 11) (oi := ⟨some 33, _, _, _, _, _⟩) (v := ?_) rfl (by kernel_rfl) (by kernel_rfl) (by kernel_rfl) (fun _ _ _ h => h) (Or.inl ⟨by kernel_rfl, ?_⟩) (by assumption) ?_
        rotate_left
        · (intro ww hSw; (try dsimp only at hSw); go_simp); (try with_reducible rfl)
        (try simp only [Act.put, List.setIfInBounds_toArray, List.set_cons_zero, List.set_cons_succ])
        refine wpAnyH_ready (rs := [6]) (by kernel_rfl) (by simp) ?_
        refine AllReadyH.cons rfl (fun K hK => ?_) AllReadyH.nil
        go_simp
        refine (HD1.out Wd).mono ?_
        rintro e W100 ⟨rfl, hb⟩
        have hbx : Below Wd.heap.size Wd W100 := hb
        clear hb
        replace HBS := Lib.hid (fb2 HBS.out hbx (Nat.le_refl _))
        clear hbx
        go_wp2_with fail
        refine hK.out _ _ ?_ (fun hHeld => ?_)
        · (try dsimp only); first | exact HB5.out | exact HB2.out.trans (HBS.out.mono HB2.out.size)
        clear hK K
        (try simp only [Act.put, List.setIfInBounds_toArray, List.set_cons_zero, List.set_cons_succ])
        refine wpAnyH_ready (rs := [12]) (by kernel_rfl) (by simp) ?_
        refine AllReadyH.cons rfl (fun K hK => ?_) AllReadyH.nil
        go_simp
        refine (HD2.out W100).mono ?_
        rintro e W101 ⟨rfl, hb⟩
        have hbx : Below W100.heap.size W100 W101 := hb
        clear hb
        replace HBS := Lib.hid (fb2 HBS.out hbx (Nat.le_refl _))
        clear hbx
        go_wp2_with fail
        refine hK.out _ _ ?_ (fun hHeld => ?_)
        · (try dsimp only); first | exact HB5.out | exact HB2.out.trans (HBS.out.mono HB2.out.size)
        clear hK K
        (try simp only [Act.put, List.setIfInBounds_toArray, List.set_cons_zero, List.set_cons_succ])
        refine wpAnyH_ready (rs := [13]) (by kernel_rfl) (by simp) ?_
        refine AllReadyH.cons rfl (fun K hK => ?_) AllReadyH.nil
        go_simp
        obtain ⟨W102, hWn⟩ : ∃ W102, W101.alloc (.cells #[.int .u8 37, .int .u8 ((hexD q).toNat : Int), .int .u8 ((hexD r).toNat : Int)] 5) = W102 := ⟨_, rfl⟩
        obtain ⟨G, hG⟩ : ∃ G, W101.heap.size = G := ⟨_, rfl⟩
        have HBG := Lib.hid (show Blk W102 G 5 #[.int .u8 37, .int .u8 ((hexD q).toNat : Int), .int .u8 ((hexD r).toNat : Int)] by rw [← hWn, ← hG]; exact blk_new _ _ _)
        have hbx : Below W101.heap.size W101 W102 := by rw [← hWn]; exact box_below _ _
        rw [hWn, hG]
        clear hWn hG
        replace HBS := Lib.hid (fb2 HBS.out hbx (Nat.le_refl _))
        clear hbx
        refine hK.out _ _ ?_ (fun hHeld => ?_)
        · (try dsimp only); first | exact HB5.out | exact HB2.out.trans (HBS.out.mono HB2.out.size)
        clear hK K
        (try simp only [Act.put, List.setIfInBounds_toArray, List.set_cons_zero, List.set_cons_succ])
        refine wpAnyH_ready (rs := [14]) (by kernel_rfl) (by simp) ?_
        refine AllReadyH.cons rfl (fun K hK => ?_) AllReadyH.nil
        have HOWA := Lib.hid (row_kept HOW2.out HBS.out)
        refine wp_append_own _ (.tmp 22) (.tmp 35) 52 rfl w.heap.size 5 i0 (.int .u8 0) 1 1 Tryd.underlying52 hi hz0 hz1 hz2 rfl (by decide) _ _ _ rfl HOWA.out ⟨G, 0, none⟩ 3 3 [.int .u8 37, .int .u8 ((hexD q).toNat : Int), .int .u8 ((hexD r).toNat : Int)] rfl rfl (fun j u hj => by rw [add_at0, Nat.zero_add, blk_cell HBG.out]; simpa using hj) (fun u hu => by simp at hu; rcases hu with rfl | rfl | rfl <;> rfl) (by unfold maxLen; omega) (by omega) (by have h1 := HB2.out.size; have h2 := HBS.out.size; omega) ?_
        intro v5 W103 ho5 hg5 _
        have HO5 := Lib.hid ho5
        have HB5 := Lib.hid (show Below w.heap.size w W103 from (HB2.out.trans (HBS.out.mono HB2.out.size)).grown hg5 (by have h1 := HB2.out.size; have h2 := HBS.out.size; omega) (fun q hq => (HOW2.out.lt q hq).1))
        clear ho5 hg5 HBG
        refine hK.out _ _ ?_ (fun hHeld => ?_)
        · (try dsimp only); first | exact HB5.out | exact HB2.out.trans (HBS.out.mono HB2.out.size)
        clear hK K
        (try simp only [Act.put, List.setIfInBounds_toArray])
        refine wpAnyH_take (i := 15) (oi := ⟨some 3, _, _, _, _, _⟩) (v := ?_) rfl (by kernel_rfl) (by kernel_rfl) (by kernel_rfl) (fun _ _ _ h => h) (Or.inl ⟨by kernel_rfl, ?_⟩) (by assumption) ?_
        rotate_left
        · (intro ww hSw; (try dsimp only at hSw); go_simp); (try with_reducible rfl)
        (try simp only [Act.put])
        refine wpAnyH_done (by kernel_rfl) ?_ _
        go_wp2
        go_roundg gg
        case measure => omega
        case rel => exact ⟨k + 1, m + 3, O ++ [37, hexD q, hexD r], by go_num, by omega, by rw [List.length_append, HM.out]; rfl, HN, Lib.hid (by have := HO5.out; rw [show [Value.int .u8 37, .int .u8 ((hexD q).toNat : Int), .int .u8 ((hexD r).toNat : Int)] = Lib.byteCells [37, hexD q, hexD r] from rfl, cells_of_app] at this; exact this), HB5⟩
    · have HE := Lib.hid (enc_take s.data.toList k (by rw [HSL.out]; omega) HO.out)
      have hcv := conv_own HOW.out
      have k1 : ¬ (k : Int) < (s.size : Int) := by omega
      clear hk hkg hroom hm
      go_wp2
      go_ret
      exact ⟨by rw [HE.out]; rfl, HB.out⟩

end Go.Proofs.YtnfmjkinahbilaaDoor
