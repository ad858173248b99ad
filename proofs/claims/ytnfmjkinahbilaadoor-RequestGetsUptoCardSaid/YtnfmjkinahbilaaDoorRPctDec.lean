/- The document's own Decode of percent: what any text was (written by gen/mkpctdec.py). -/
import Derived.Test.YtnfmjkinahbilaaDoorRPctVal
namespace Go.Proofs.YtnfmjkinahbilaaDoor
open Go.RowKit

def rDecR (l : List UInt8) : List UInt8 × Bool := match decS l with
  | none => ([], false)
  | some o => (o, true)
theorem raw_go {L O R X : List UInt8} {b : UInt8} (h : rawS L = (rawS R).map (O ++ ·)) (hr : rawS R = (rawS X).map (b :: ·)) : rawS L = (rawS X).map ((O ++ [b]) ++ ·) := by
  rw [h, hr]
  cases rawS X with
  | none => rfl
  | some t => simp
theorem raw_at (l : List UInt8) (k : Nat) (h : k < l.length) (h37 : ¬ l[k] = 37) : rawS (l.drop k) = (rawS (l.drop (k + 1))).map (l[k] :: ·) := by
  rw [List.drop_eq_getElem_cons h]; exact raw_plain _ _ h37
theorem raw_short (l : List UInt8) (k : Nat) (h : k < l.length) (h37 : l[k] = 37) (h2 : l.length ≤ k + 2) : rawS (l.drop k) = none := by
  rw [List.drop_eq_getElem_cons h, h37]
  match hq : l.drop (k + 1) with
  | [] => rfl
  | [_] => rfl
  | a :: b :: r =>
    have := congrArg List.length hq
    rw [List.length_drop] at this
    simp at this; omega
theorem raw_two (l : List UInt8) (k : Nat) (h : k + 2 < l.length) (h37 : l[k] = 37) : rawS (l.drop k) = if valZ (l[k + 1].toNat : Int) < 0 ∨ valZ (l[k + 2].toNat : Int) < 0 then none else (rawS (l.drop (k + 3))).map (UInt8.ofNat (two l[k + 1] l[k + 2]).toNat :: ·) := by
  rw [List.drop_eq_getElem_cons (show k < l.length by omega), List.drop_eq_getElem_cons (show k + 1 < l.length by omega), List.drop_eq_getElem_cons (show k + 1 + 1 < l.length by omega), h37]
  rw [rawS, if_pos rfl]
theorem raw_end (l : List UInt8) (k : Nat) (h : l.length ≤ k) {O : List UInt8} (hr : rawS l = (rawS (l.drop k)).map (O ++ ·)) : rawS l = some O := by
  rw [hr, List.drop_eq_nil_of_le h]; simp [rawS]
theorem rdec_none {l : List UInt8} (h : rawS l = none) : rDecR l = ([], false) := by unfold rDecR decS; rw [h]; rfl
theorem rdec_no {l O : List UInt8} (h : rawS l = some O) (he : ¬ encS O = l) : rDecR l = ([], false) := by unfold rDecR decS; rw [h]; simp [he]
theorem rdec_yes {l O : List UInt8} (h : rawS l = some O) (he : encS O = l) : rDecR l = (O, true) := by unfold rDecR decS; rw [h]; simp [he]
theorem not37 {s : ByteArray} {k : Nat} {h : k < s.size} (hc : ¬ (s[k].toNat : Int) = 37) : ¬ s[k] = 37 := fun e => hc (by rw [e]; rfl)
theorem is37 {b : UInt8} (h : (b.toNat : Int) = 37) : b = 37 := (u8_of (b := b) (n := 37) (by omega)).1 h
theorem texts_no (a b : ByteArray) (h : ¬ a = b) : (a.toList == b.toList) = false := by
  refine beq_eq_false_iff_ne.2 fun e => h ?_
  have h1 : (bs a.data.toList).toList = (bs b.data.toList).toList := e
  rw [bs_toList, bs_toList] at h1
  exact congrArg bs h1
set_option maxRecDepth 100000 in
theorem wrap_byte (x : UInt8) : IntKind.u8.wrap (x.toNat : Int) = (x.toNat : Int) := by
  have key : ∀ n : Fin 256, IntKind.u8.wrap ((n.1 : Nat) : Int) = ((n.1 : Nat) : Int) := by decide
  exact key ⟨x.toNat, x.toNat_lt⟩
theorem valB (c : UInt8) (W : World) (d : Int) (h : valZ (c.toNat : Int) = d) : Calls Tryd.prog 53 #[.int .u8 (c.toNat : Int)] W fun e w' => e = .returned (.int .i64 d) ∧ Below W.heap.size W w' := by
  subst h
  exact (rValue_calls c W).mono fun e w' ⟨he, hw⟩ => ⟨he, by rw [hw]; exact Below.refl _ _⟩

set_option maxRecDepth 100000 in
set_option maxHeartbeats 4000000 in
theorem rDecode_calls (s : ByteArray) (w : World) (hs : s.size ≤ 40000000000000) :
    Calls Tryd.prog 41 #[.string s] w fun e w' => e = .returned (.tuple #[.string (bs (rDecR s.data.toList).1), .bool (rDecR s.data.toList).2]) ∧ Below w.heap.size w w' := by
  obtain ⟨i0, hi, hz0, hz1, hz2⟩ := info_parts info_byte
  have HSL := Lib.hid (show s.data.toList.length = s.size from (Lib.size_eq s).symm)
  have HMADE := Lib.hid (World.ownsRow_made (base := w.heap.size) (e := 5) (size := 1) w #[] 0 (Nat.le_refl _) (by unfold maxLen; omega) rfl)
  go_enter Tryd.func41, Tryd.ntmps41
  go_wp2
  go_loopg [4, 5] s.size (fun g v i wr => ∃ (k m : Nat) (O : List UInt8), i = .int .i64 k ∧ k + g = s.size ∧ O.length = m ∧ m ≤ k ∧ Hid (rawS s.data.toList = (rawS (s.data.toList.drop k)).map (O ++ ·)) ∧ Hid (wr.ownsRow w.heap.size 5 1 v m (Lib.byteCells O)) ∧ Hid (Below w.heap.size w wr))
  case atStart => exact ⟨0, 0, [], rfl, by omega, rfl, Nat.le_refl _, Lib.hid (by simp), HMADE, Lib.hid (box_below _ _)⟩
  case round =>
    obtain ⟨W1, rfl⟩ : ∃ W1, W1 = wr := ⟨_, rfl⟩
    obtain ⟨k, m, O, rfl, hkg, hm, hmk, HR, HOW, HB⟩ := hrel
    have HM := Lib.hid hm
    clear hm
    by_cases hk : k < s.size
    · have hkl : k < s.data.toList.length := by rw [HSL.out]; exact hk
      have hgk := get_list s k hk
      by_cases h37 : (s[k].toNat : Int) = 37
      · have g37 : ((s[k].toNat : Int) != 37) = false := by simp [h37]
        have h37l : s.data.toList[k] = 37 := by rw [hgk]; exact is37 h37
        by_cases h2 : k + 2 < s.size
        · have h1s : k + 1 < s.size := by omega
          have hl2 : k + 2 < s.data.toList.length := by rw [HSL.out]; exact h2
          have hg1 := get_list s (k + 1) h1s
          have hg2 := get_list s (k + 2) h2
          have ht := raw_two s.data.toList k hl2 h37l
          rw [hg1, hg2] at ht
          have hby := @two_byte s[k + 1] s[k + 2]
          have b1 := val_lt s[k + 1]; have b2 := val_lt s[k + 2]
          obtain ⟨d1, hd1⟩ : ∃ d, valZ (s[k + 1].toNat : Int) = d := ⟨_, rfl⟩
          obtain ⟨d2, hd2⟩ : ∃ d, valZ (s[k + 2].toNat : Int) = d := ⟨_, rfl⟩
          have HV1 := Lib.hid (fun W => valB s[k + 1] W d1 hd1)
          have HV2 := Lib.hid (fun W => valB s[k + 2] W d2 hd2)
          unfold two at ht hby
          rw [hd1, hd2] at ht hby
          rw [hd1] at b1
          rw [hd2] at b2
          have j1 : ¬ (s.size : Int) ≤ (k : Int) + 2 := by omega
          have j2 : (k : Int) + 1 < (s.size : Int) := by omega
          have j3 : (k : Int) + 2 < (s.size : Int) := by omega
          clear hd1 hd2 hg1 hg2 h37l h37 hgk
          by_cases n1 : d1 < 0
          · have HE := Lib.hid (rdec_none (l := s.data.toList) (by rw [HR.out, ht, if_pos (.inl n1)]; rfl))
            clear ht hby
            go_wp2_with fail
            refine (HV1.out _).mono ?_
            rintro e W2 ⟨rfl, hb⟩
            have HB2 := Lib.hid (fb2 HB.out hb (Nat.le_refl _))
            clear hb
            go_wp2
            go_ret2
            exact ⟨by rw [HE.out]; rfl, HB2.out⟩
          · by_cases n2 : d2 < 0
            · have HE := Lib.hid (rdec_none (l := s.data.toList) (by rw [HR.out, ht, if_pos (.inr n2)]; rfl))
              clear ht hby
              go_wp2_with fail
              refine (HV1.out _).mono ?_
              rintro e W2 ⟨rfl, hb⟩
              have HB2 := Lib.hid (fb2 HB.out hb (Nat.le_refl _))
              clear hb
              go_wp2_with fail
              refine (HV2.out _).mono ?_
              rintro e W3 ⟨rfl, hb⟩
              have HB3 := Lib.hid (fb2 HB2.out hb (Nat.le_refl _))
              clear hb
              go_wp2
              go_ret2
              exact ⟨by rw [HE.out]; rfl, HB3.out⟩
            · rw [if_neg (by omega)] at ht
              replace hby := hby (by rw [not_or]; exact ⟨n1, n2⟩)
              have HN := Lib.hid (raw_go HR.out ht)
              generalize UInt8.ofNat (16 * d1 + d2).toNat = x at hby HN
              have p1 := x.toNat_lt
              have e1 : IntKind.i64.wrap (16 * d1) = 16 * d1 := by rw [IntKind.wrap_i64]; omega
              have e2 : IntKind.i64.wrap (16 * d1 + d2) = (x.toNat : Int) := by rw [IntKind.wrap_i64]; omega
              have e3 : IntKind.u8.wrap (x.toNat : Int) = (x.toNat : Int) := wrap_byte x
              have e5 : IntKind.i64.wrap (x.toNat : Int) = (x.toNat : Int) := by rw [IntKind.wrap_i64]; omega
              have e4 : 16 * d1 + d2 = (x.toNat : Int) := hby.symm
              obtain ⟨gg, rfl⟩ : ∃ gg, gk = gg + 3 := ⟨gk - 3, by omega⟩
              have q1 : IntKind.i64.wrap ((k : Int) + 1) = (k : Int) + 1 := by rw [IntKind.wrap_i64]; omega
              have q2 : IntKind.i64.wrap ((k : Int) + 2) = (k : Int) + 2 := by rw [IntKind.wrap_i64]; omega
              have q3 : (0 : Int) ≤ (k : Int) + 1 := by omega
              have q4 : (0 : Int) ≤ (k : Int) + 2 := by omega
              have q5 : ((k : Int) + 1).toNat = k + 1 := by omega
              have q6 : ((k : Int) + 2).toNat = k + 2 := by omega
              clear ht hby p1
              go_wp2_with fail
              refine (HV1.out _).mono ?_
              rintro e W2' ⟨rfl, hb⟩
              have HB2' := Lib.hid (fb2 HB.out hb (Nat.le_refl _))
              have HOW2' := Lib.hid (row_kept HOW.out hb)
              clear hb
              go_wp2_with fail
              refine (HV2.out _).mono ?_
              rintro e W2 ⟨rfl, hb⟩
              have HB2 := Lib.hid (fb2 HB2'.out hb (Nat.le_refl _))
              have HOW2 := Lib.hid (row_kept HOW2'.out hb)
              clear hb HB2' HOW2' HB HOW
              go_wp2_with fail
              refine wp_region_held_drew (S := (fun W => Below w.heap.size w W)) (by kernel_rfl) ?_ (fun hHeld => ?_)
              · (try dsimp only); exact HB2.out.drew
              obtain ⟨Wd, hWd⟩ : ∃ Wd, W2.drew = Wd := ⟨_, rfl⟩
              rw [hWd] at hHeld ⊢
              have HBS := Lib.hid (show Below W2.heap.size W2 Wd by rw [← hWd]; exact (Below.refl _ _).drew)
              clear hWd
              refine wpAnyH_take (i := 0) (oi := ⟨some 44, _, _, _, _, _⟩) (v := ?_) rfl (by kernel_rfl) (by kernel_rfl) (by kernel_rfl) (fun _ _ _ h => h) (Or.inl ⟨by kernel_rfl, ?_⟩) (by assumption) ?_
              rotate_left
              · (intro ww hSw; (try dsimp only at hSw); go_simp); (try with_reducible rfl)
              (try simp only [Act.put, List.setIfInBounds_toArray, List.set_cons_zero, List.set_cons_succ])
              refine wpAnyH_take (i := 1) (oi := ⟨some 45, _, _, _, _, _⟩) (v := ?_) rfl (by kernel_rfl) (by kernel_rfl) (by kernel_rfl) (fun _ _ _ h => h) (Or.inl ⟨by kernel_rfl, ?_⟩) (by assumption) ?_
              rotate_left
              · (intro ww hSw; (try dsimp only at hSw); go_simp); (try with_reducible rfl)
              (try simp only [Act.put, List.setIfInBounds_toArray, List.set_cons_zero, List.set_cons_succ])
              refine wpAnyH_take (i := 2) (oi := ⟨some 46, _, _, _, _, _⟩) (v := ?_) rfl (by kernel_rfl) (by kernel_rfl) (by kernel_rfl) (fun _ _ _ h => h) (Or.inl ⟨by kernel_rfl, ?_⟩) (by assumption) ?_
              rotate_left
              · (intro ww hSw; (try dsimp only at hSw); go_simp); (try with_reducible rfl)
              (try simp only [Act.put, List.setIfInBounds_toArray, List.set_cons_zero, List.set_cons_succ])
              refine wpAnyH_take (i := 3) (oi := ⟨some 47, _, _, _, _, _⟩) (v := ?_) rfl (by kernel_rfl) (by kernel_rfl) (by kernel_rfl) (fun _ _ _ h => h) (Or.inl ⟨by kernel_rfl, ?_⟩) (by assumption) ?_
              rotate_left
              · (intro ww hSw; (try dsimp only at hSw); go_simp); (try with_reducible rfl)
              (try simp only [Act.put, List.setIfInBounds_toArray, List.set_cons_zero, List.set_cons_succ])
              refine wpAnyH_take (i := 4) (oi := ⟨some 48, _, _, _, _, _⟩) (v := ?_) rfl (by kernel_rfl) (by kernel_rfl) (by kernel_rfl) (fun _ _ _ h => h) (Or.inl ⟨by kernel_rfl, ?_⟩) (by assumption) ?_
              rotate_left
              · (intro ww hSw; (try dsimp only at hSw); go_simp); (try with_reducible rfl)
              (try simp only [Act.put, List.setIfInBounds_toArray, List.set_cons_zero, List.set_cons_succ])
              refine wpAnyH_take (i := 7) (oi := ⟨some 51, _, _, _, _, _⟩) (v := ?_) rfl (by kernel_rfl) (by kernel_rfl) (by kernel_rfl) (fun _ _ _ h => h) (Or.inl ⟨by kernel_rfl, ?_⟩) (by assumption) ?_
              rotate_left
              · (intro ww hSw; (try dsimp only at hSw); go_simp); (try with_reducible rfl)
              (try simp only [Act.put, List.setIfInBounds_toArray, List.set_cons_zero, List.set_cons_succ])
              refine wpAnyH_take (i := 8) (oi := ⟨some 52, _, _, _, _, _⟩) (v := ?_) rfl (by kernel_rfl) (by kernel_rfl) (by kernel_rfl) (fun _ _ _ h => h) (Or.inl ⟨by kernel_rfl, ?_⟩) (by assumption) ?_
              rotate_left
              · (intro ww hSw; (try dsimp only at hSw); go_simp); (try with_reducible rfl)
              (try simp only [Act.put, List.setIfInBounds_toArray, List.set_cons_zero, List.set_cons_succ])
              refine wpAnyH_take (i := 9) (oi := ⟨some 53, _, _, _, _, _⟩) (v := ?_) rfl (by kernel_rfl) (by kernel_rfl) (by kernel_rfl) (fun _ _ _ h => h) (Or.inl ⟨by kernel_rfl, ?_⟩) (by assumption) ?_
              rotate_left
              · (intro ww hSw; (try dsimp only at hSw); go_simp); (try with_reducible rfl)
              (try simp only [Act.put, List.setIfInBounds_toArray, List.set_cons_zero, List.set_cons_succ])
              refine wpAnyH_take (i := 10) (oi := ⟨some 54, _, _, _, _, _⟩) (v := ?_) rfl (by kernel_rfl) (by kernel_rfl) (by kernel_rfl) (fun _ _ _ h => h) (Or.inl ⟨by kernel_rfl, ?_⟩) (by assumption) ?_
              rotate_left
              · (intro ww hSw; (try dsimp only at hSw); go_simp); (try with_reducible rfl)
              (try simp only [Act.put, List.setIfInBounds_toArray, List.set_cons_zero, List.set_cons_succ])
              refine wpAnyH_ready (rs := [5]) (by kernel_rfl) (by simp) ?_
              refine AllReadyH.cons rfl (fun K hK => ?_) AllReadyH.nil
              go_simp
              refine (HV1.out Wd).mono ?_
              rintro e W100 ⟨rfl, hb⟩
              have hbx : Below Wd.heap.size Wd W100 := hb
              clear hb
              replace HBS := Lib.hid (fb2 HBS.out hbx (Nat.le_refl _))
              clear hbx
              go_wp2_with fail
              refine hK.out _ _ ?_ (fun hHeld => ?_)
              · (try dsimp only); first | exact HB5.out | exact HB2.out.trans (HBS.out.mono HB2.out.size)
              clear hK K
              (try simp only [Act.put, List.setIfInBounds_toArray, List.set_cons_zero, List.set_cons_succ])
              refine wpAnyH_take (i := 6) (oi := ⟨some 50, _, _, _, _, _⟩) (v := ?_) rfl (by kernel_rfl) (by kernel_rfl) (by kernel_rfl) (fun _ _ _ h => h) (Or.inl ⟨by kernel_rfl, ?_⟩) (by assumption) ?_
              rotate_left
              · (intro ww hSw; (try dsimp only at hSw); go_simp); (try with_reducible rfl)
              (try simp only [Act.put, List.setIfInBounds_toArray, List.set_cons_zero, List.set_cons_succ])
              refine wpAnyH_ready (rs := [11]) (by kernel_rfl) (by simp) ?_
              refine AllReadyH.cons rfl (fun K hK => ?_) AllReadyH.nil
              go_simp
              refine (HV2.out W100).mono ?_
              rintro e W101 ⟨rfl, hb⟩
              have hbx : Below W100.heap.size W100 W101 := hb
              clear hb
              replace HBS := Lib.hid (fb2 HBS.out hbx (Nat.le_refl _))
              clear hbx
              go_wp2_with fail
              refine hK.out _ _ ?_ (fun hHeld => ?_)
              · (try dsimp only); first | exact HB5.out | exact HB2.out.trans (HBS.out.mono HB2.out.size)
              clear hK K
              (try simp only [Act.put, List.setIfInBounds_toArray, List.set_cons_zero, List.set_cons_succ])
              refine wpAnyH_take (i := 12) (oi := ⟨some 56, _, _, _, _, _⟩) (v := ?_) rfl (by kernel_rfl) (by kernel_rfl) (by kernel_rfl) (fun _ _ _ h => h) (Or.inl ⟨by kernel_rfl, ?_⟩) (by assumption) ?_
              rotate_left
              · (intro ww hSw; (try dsimp only at hSw); go_simp); (try with_reducible rfl)
              (try simp only [Act.put, List.setIfInBounds_toArray, List.set_cons_zero, List.set_cons_succ])
              refine wpAnyH_take (i := 13) (oi := ⟨some 57, _, _, _, _, _⟩) (v := ?_) rfl (by kernel_rfl) (by kernel_rfl) (by kernel_rfl) (fun _ _ _ h => h) (Or.inl ⟨by kernel_rfl, ?_⟩) (by assumption) ?_
              rotate_left
              · (intro ww hSw; (try dsimp only at hSw); go_simp); (try with_reducible rfl)
              (try simp only [Act.put, List.setIfInBounds_toArray, List.set_cons_zero, List.set_cons_succ])
              refine wpAnyH_ready (rs := [14]) (by kernel_rfl) (by simp) ?_
              refine AllReadyH.cons rfl (fun K hK => ?_) AllReadyH.nil
              go_simp
              obtain ⟨W102, hWn⟩ : ∃ W102, W101.alloc (.cells #[.int .u8 (x.toNat : Int)] 5) = W102 := ⟨_, rfl⟩
              obtain ⟨G, hG⟩ : ∃ G, W101.heap.size = G := ⟨_, rfl⟩
              have HBG := Lib.hid (show Blk W102 G 5 #[.int .u8 (x.toNat : Int)] by rw [← hWn, ← hG]; exact blk_new _ _ _)
              have hbx : Below W101.heap.size W101 W102 := by rw [← hWn]; exact box_below _ _
              rw [hWn, hG]
              clear hWn hG
              replace HBS := Lib.hid (fb2 HBS.out hbx (Nat.le_refl _))
              clear hbx
              refine hK.out _ _ ?_ (fun hHeld => ?_)
              · (try dsimp only); first | exact HB5.out | exact HB2.out.trans (HBS.out.mono HB2.out.size)
              clear hK K
              (try simp only [Act.put, List.setIfInBounds_toArray, List.set_cons_zero, List.set_cons_succ])
              refine wpAnyH_ready (rs := [15]) (by kernel_rfl) (by simp) ?_
              refine AllReadyH.cons rfl (fun K hK => ?_) AllReadyH.nil
              have HOWA := Lib.hid (row_kept HOW2.out HBS.out)
              refine wp_append_own _ (.tmp 44) (.tmp 58) 52 rfl w.heap.size 5 i0 (.int .u8 0) 1 1 Tryd.underlying52 hi hz0 hz1 hz2 rfl (by decide) _ _ _ rfl HOWA.out ⟨G, 0, none⟩ 1 1 [.int .u8 (x.toNat : Int)] rfl rfl (fun j u hj => by rw [add_at0, Nat.zero_add, blk_cell HBG.out]; simpa using hj) (fun u hu => by simp at hu; subst hu; rfl) (by unfold maxLen; omega) (by omega) (by have h1 := HB2.out.size; have h2 := HBS.out.size; omega) ?_
              intro v5 W103 ho5 hg5 _
              have HO5 := Lib.hid ho5
              have HB5 := Lib.hid (show Below w.heap.size w W103 from (HB2.out.trans (HBS.out.mono HB2.out.size)).grown hg5 (by have h1 := HB2.out.size; have h2 := HBS.out.size; omega) (fun q hq => (HOW2.out.lt q hq).1))
              clear ho5 hg5 HBG
              refine hK.out _ _ ?_ (fun hHeld => ?_)
              · (try dsimp only); first | exact HB5.out | exact HB2.out.trans (HBS.out.mono HB2.out.size)
              clear hK K
              (try simp only [Act.put, List.setIfInBounds_toArray])
              refine wpAnyH_take (i := 16) (oi := ⟨some 4, _, _, _, _, _⟩) (v := ?_) rfl (by kernel_rfl) (by kernel_rfl) (by kernel_rfl) (fun _ _ _ h => h) (Or.inl ⟨by kernel_rfl, ?_⟩) (by assumption) ?_
              rotate_left
              · (intro ww hSw; (try dsimp only at hSw); go_simp); (try with_reducible rfl)
              (try simp only [Act.put])
              refine wpAnyH_done (by kernel_rfl) ?_ _
              go_wp2
              go_roundg gg
              case measure => omega
              case rel => exact ⟨k + 3, m + 1, O ++ [x], by go_num, by omega, by rw [List.length_append, HM.out]; rfl, by omega, HN, Lib.hid (by have := HO5.out; rw [show [Value.int .u8 (x.toNat : Int)] = Lib.byteCells [x] from rfl, cells_of_app] at this; exact this), HB5⟩
        · have HE := Lib.hid (rdec_none (l := s.data.toList) (by rw [HR.out, raw_short s.data.toList k hkl h37l (by rw [HSL.out]; omega)]; rfl))
          have j1 : (s.size : Int) ≤ (k : Int) + 2 := by omega
          clear h37l h37 hgk
          go_wp2
          go_ret2
          exact ⟨by rw [HE.out]; rfl, HB.out⟩
      · have g37 : ((s[k].toNat : Int) != 37) = true := by simpa using h37
        have hn := raw_go HR.out (raw_at s.data.toList k hkl (by rw [hgk]; exact not37 h37))
        rw [hgk] at hn
        have HN := Lib.hid hn
        obtain ⟨gg, rfl⟩ : ∃ gg, gk = gg + 1 := ⟨gk - 1, by omega⟩
        clear hn hgk h37
        go_wp2_with (at_builtin; (refine wpList_append_own _ rfl (.tmp 17) (.tmp 21) 52 rfl w.heap.size 5 i0 (.int .u8 0) 1 1 Tryd.underlying52 hi hz0 hz1 hz2 rfl (by decide) _ _ _ rfl (HOW.out.alloc _) ⟨W1.heap.size, 0, none⟩ 1 1 [.int .u8 (s[k].toNat : Int)] rfl rfl (news_gen _ _ _ (by simp)) (by intro u hu; simp at hu; subst hu; rfl) (by unfold maxLen; omega) (by omega) (by have := HB.out.size; simp; omega) ?_; intro v3 w3 ho3 hg3 _; have HO3 := Lib.hid ho3; have HG3 := Lib.hid hg3; clear ho3 hg3))
        go_roundg gg
        case measure => omega
        case rel => exact ⟨k + 1, m + 1, O ++ [s[k]], by go_num, by omega, by rw [List.length_append, HM.out]; rfl, by omega, HN, Lib.hid (by have := HO3.out; rw [show [Value.int .u8 (s[k].toNat : Int)] = Lib.byteCells [s[k]] from rfl, cells_of_app] at this; exact this), Lib.hid ((HB.out.alloc HB.out.size _).grown HG3.out (by have := HB.out.size; simp; omega) (fun q hq => (HOW.out.lt q hq).1))⟩
    · have hraw := raw_end s.data.toList k (by rw [HSL.out]; omega) HR.out
      have hcv := conv_own HOW.out
      have k1 : ¬ (k : Int) < (s.size : Int) := by omega
      have HEN := Lib.hid (fun W => rEncode_calls (bs O) W (by rw [bs_size, HM.out]; omega))
      rw [show (bs O).data.toList = O from rfl] at HEN
      by_cases he : encS O = s.data.toList
      · have HE := Lib.hid (rdec_yes hraw he)
        rw [he, show bs s.data.toList = s from rfl] at HEN
        clear he hraw hk hkg
        go_wp2_with fail
        refine (HEN.out _).mono ?_
        rintro e W2 ⟨rfl, hb⟩
        have HB2 := Lib.hid (fb2 HB.out hb (Nat.le_refl _))
        have hcv2 := conv_own (row_kept HOW.out hb)
        clear hb
        go_wp2
        go_ret2
        exact ⟨by rw [HE.out]; rfl, HB2.out⟩
      · have HE := Lib.hid (rdec_no hraw he)
        have g0 := texts_no (bs (encS O)) s (fun e => he (by rw [← e]; rfl))
        generalize bs (encS O) = E at HEN g0
        clear he hraw hk hkg
        go_wp2_with fail
        refine (HEN.out _).mono ?_
        rintro e W2 ⟨rfl, hb⟩
        have HB2 := Lib.hid (fb2 HB.out hb (Nat.le_refl _))
        clear hb
        go_wp2
        go_ret2
        exact ⟨by rw [HE.out]; rfl, HB2.out⟩

end Go.Proofs.YtnfmjkinahbilaaDoor
