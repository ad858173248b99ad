/- Groups of a table's rows with what aggregates come to: the document's Group (written by gen/mkrgroup13.py). -/
import Derived.Test.YtdnfaoanaehjhaaGreatDoorGrpJoin
import Derived.Test.YtdnfaoanaehjhaaGreatDoorRGrpWith
import Derived.Test.YtdnfaoanaehjhaaGreatDoorRGrpSome
import Derived.Test.YtdnfaoanaehjhaaGreatDoorH29
import Derived.Test.YtdnfaoanaehjhaaGreatDoorH25
import Derived.Test.YtdnfaoanaehjhaaGreatDoorGrpCheck
import Derived.Test.YtdnfaoanaehjhaaGreatDoorH18
import Derived.Test.YtdnfaoanaehjhaaGreatDoorShpRefProj
namespace Go.Proofs.YtdnfaoanaehjhaaGreatDoor
open Go.RowKit Go.Maps Go.Sort

theorem cellX {w w' : World} {g o X : Nat} {v : Value} (h : w.cell? ⟨g, o, none⟩ = some v) (hw : w.grownBy w' (some X)) (hg : g < w.heap.size) (hne : g ≠ X) : w'.cell? ⟨g, o, none⟩ = some v := by
  have hb : w'.heap[g]? = w.heap[g]? := hw.block g hg (fun e => hne (Option.some.inj e))
  rw [← h]
  unfold World.cell?
  simp only [hb]
theorem trm_keep {w w' : World} {X n c : Nat} {a : Option Addr} {L : List TermL} {us v : Value} (h : TrmA w a n c L) (hX : Blk w X 25 #[us, v]) (hu : ∃ x y z, us = .slice x y z) (hv : ∃ x y z, v = .slice x y z) (hw : w.grownBy w' (some X)) : TrmA w' a n c L := by
  obtain ⟨x1, y1, z1, rfl⟩ := hu
  obtain ⟨x2, y2, z2, rfl⟩ := hv
  exact (((h.k).apart hX).on (w' := w') ⟨hw.size, fun b hb hk => hw.block b hb (fun e => hk.2 (Option.some.inj e))⟩).a
theorem group_rows {V B : List (List UInt8)} {L : List AggL} {R : List RowL} (hB : B ≠ []) : groupP V B L R = (distP (projP B V R)).map fun d => d ++ L.map (comesP V (R.filter fun r => decide (B.map (boundP V r) = d))) := group_is L R hB
theorem key_lens {V B : List (List UInt8)} {R : List RowL} : ∀ d ∈ distP (projP B V R), d.length = B.length := fun d hd => by
  obtain ⟨r, _, rfl⟩ := List.mem_map.1 ((dist_mem _ _).1 hd)
  unfold projR
  rw [List.length_map]

set_option maxRecDepth 100000 in
set_option maxHeartbeats 16000000 in
theorem rGGroup_calls (V : List (List UInt8)) (R : List RowL) (B : List (List UInt8)) (L : List AggL) (hr : okR R) (hz : checkG V R B L = 0) (h40 : R.length ≤ 40) (tv : Value) (ba : Option Addr) (bn bc : Nat) (la : Option Addr) (ln lc : Nat) (w : World) (ht : TabA w tv V R) (hb : TxtA w ba bn bc B) (hl : AgA w la ln lc L) :
    Calls Tryz.prog 16 #[tv, .slice ba bn bc, .slice la ln lc] w fun e w' => ∃ uv, e = .returned uv ∧ TabA w' uv (B ++ aggNames L) (groupP V B L R) ∧ Below w.heap.size w w' := by
  obtain ⟨s0, hs, hs0, hs1, hs2⟩ := info_parts info_text
  obtain ⟨i0, hi, hz0, hz1, hz2⟩ := info_parts info_row
  obtain ⟨va, n, vc, ra, m, rc, rfl, hV, hR⟩ := ht
  have hmay := check_zero hz
  have hbl32 : bn + ln ≤ 32 := by rw [← hb.len, ← hl.len]; exact hmay.long
  obtain ⟨A, hA⟩ : ∃ A, w.heap.size = A := ⟨_, rfl⟩
  obtain ⟨W0, hW0⟩ : ∃ W0, ((w.alloc (.cells #[.slice va n vc, .slice ra m rc] 25)).alloc (.cells #[.slice none 0 0, .slice none 0 0] 25)).alloc (.cells #[] 9) = W0 := ⟨_, rfl⟩
  have HB0 := Lib.hid (show Below w.heap.size w W0 by rw [← hW0]; exact fb2 (two_alloc _ _ _) (box_below _ _) (Nat.le_refl _))
  have HZ0 := Lib.hid (show W0.heap.size = A + 3 by rw [← hW0, ← hA]; simp)
  have HA0 := Lib.hid (show Blk W0 A 25 #[.slice va n vc, .slice ra m rc] by rw [← hW0, ← hA]; exact blk_alloc (blk_alloc (blk_new _ _ _) _) _)
  have HE0 := Lib.hid (show Blk W0 (A + 1) 25 #[.slice none 0 0, .slice none 0 0] by
    rw [← hW0]
    refine blk_alloc ?_ _
    have := blk_new (w.alloc (.cells #[.slice va n vc, .slice ra m rc] 25)) 25 #[.slice none 0 0, .slice none 0 0]
    rw [World.size_alloc, hA] at this
    exact this)
  have HO0 := Lib.hid (show W0.ownsRow (A + 2) 9 1 (.slice (some ⟨A + 2, 0, none⟩) 0 0) 0 (textCells []) by
    rw [← hW0]
    have := World.ownsRow_lit (base := A + 2) (e := 9) (size := 1) ((w.alloc (.cells #[.slice va n vc, .slice ra m rc] 25)).alloc (.cells #[.slice none 0 0, .slice none 0 0] 25)) #[] 0 (by simp; omega) (by unfold maxLen; omega) rfl
    rw [World.size_alloc, World.size_alloc, hA] at this
    exact this)
  have HBN := Lib.hid ((hb.on HB0.out).news)
  have HBTL := Lib.hid (show (textCells B).length = bn * 1 by unfold textCells; rw [List.length_map, hb.len, Nat.mul_one])
  have HNTL := Lib.hid (show (textCells (aggNames L)).length = ln * 1 by unfold textCells; rw [List.length_map, names_len, hl.len, Nat.mul_one])
  have HM0 := Lib.hid (show 0 + bn ≤ maxLen by unfold maxLen; omega)
  have HM1 := Lib.hid (show bn + ln ≤ maxLen by unfold maxLen; omega)
  have HM2 := Lib.hid (show (bn + ln) * 16 ≤ 140737488355328 by omega)
  have HNM := Lib.hid (fun W (h : Below w.heap.size w W) => gNames_calls L la ln lc W (hl.on h) (by omega))
  have hTB : ∀ W, Below w.heap.size w W → TabA W (.agg #[.slice va n vc, .slice ra m rc]) V R := fun W hb => ⟨va, n, vc, ra, m, rc, rfl, hV.on hb, hR.on hb⟩
  have HPJ := Lib.hid (fun W (h : Below w.heap.size w W) => rProject_calls V B R (by rw [hb.len]; omega) _ ba bn bc W (hTB W h) (hb.on h) h40)
  have HDS := Lib.hid (fun W tv (h : TabA W tv B (projP B V R)) => rDistinct_new B (projP B V R) tv W h (by unfold projP; rw [List.length_map]; exact h40))
  have HSM := Lib.hid (fun W d a c (h : Below w.heap.size w W) (hd : TrmA W a bn c d) (hdl : d.length = B.length) => rSome_calls V B R d hdl _ ba bn bc a bn c W (hTB W h) (hb.on h) hd h40)
  have HWT := Lib.hid (fun W (S : List RowL) (row : RowL) xa q qc tv (h : Below w.heap.size w W) (hS : ∀ r ∈ S, r ∈ R) (hSl : S.length ≤ R.length) (hq : row.length ≤ 32) (hx : TrmA W xa q qc row) (hT : TabA W tv V S) => rWith_calls V S row L (fun r hr2 t ht => hr r (hS r hr2) t ht) hmay.form (by omega) (by have := hl.len; omega) xa q qc tv la ln lc W hx hT (hl.on h))
  have HTB := Lib.hid hTB
  have HBL := Lib.hid hb.len
  have HLL := Lib.hid hl.len
  have hbc := hb.cap
  have hbm := hb.most
  have hlc := hl.cap
  have hlm := hl.most
  unfold maxLen at hbm hlm
  have hm40 : m ≤ 40 := by rw [← hR.len]; exact h40
  have HRL := Lib.hid hR.len
  have HAE := Lib.hid hA
  have HW0 := Lib.hid hW0
  clear hA hW0 hV hR hb hl hz hmay hTB hr h40

  by_cases hbz : bn = 0
  · have g1 : ((bn : Int) == 0) = true := beq_iff_eq.2 (by omega)
    have g2 : (bn == 0) = true := beq_iff_eq.2 hbz
    have HBZ := Lib.hid (show B = [] from List.eq_nil_of_length_eq_zero (by have := HBL.out; omega))
    have HGP := Lib.hid (show groupP V B L R = [L.map (comesP V R)] by rw [HBZ.out]; exact group_none V L R)
    have HLN0 := Lib.hid (show ([] ++ L.map (comesP V R) : RowL).length = ln by rw [List.nil_append, List.length_map, HLL.out])
    clear hbz
    go_enter Tryz.func16, Tryz.ntmps16
    go_wp2_with (first
      | (at_builtin; rw [HW0.out, HAE.out]; refine append_any (.tmp 10) (.tmp 11) 22 ⟨rfl, rfl⟩ (A + 2) 9 s0 (.string ⟨#[]⟩) 1 16 Tryz.underlying22 hs hs0 hs1 hs2 rfl (by decide) _ 0 _ rfl HO0.out ba bn bc (textCells B) rfl HBTL.out HBN.out textCells_cell HM0.out (by omega) (by have := HZ0.out; omega) ?_; intro v8 w8 ho8 hg8 _; rw [← textCells_app, List.nil_append, Nat.zero_add] at ho8; have HO8 := Lib.hid ho8.out; have HB8 := Lib.hid (show Below (A + 2) W0 w8 from (Below.refl _ _).grown hg8.out (by have := HZ0.out; omega) (fun b hb => by have e : A + 2 = b := Option.some.inj hb; omega)); have HZ8 := Lib.hid (show A + 3 ≤ w8.heap.size by have h1 := HZ0.out; have h2 := hg8.out.size; omega); clear ho8 hg8)
      | (go_at_call 37; refine (HNM.out w8 (HB0.out.trans (HB8.out.mono (by have := HAE.out; omega)))).mono ?_; rintro e w9 ⟨na, nc, rfl, hT9, hb9⟩; have HT9 := Lib.hid hT9.news; have HB9 := Lib.hid hb9; have HO9 := Lib.hid (HO8.out.kept (row := none) ⟨hb9.os, hb9.tape, hb9.output, hb9.size, fun b hb _ => hb9.block b hb⟩ (by (cases hq : v8.ownBlock with | none => exact .inl rfl | some x => exact .inr (by simp)))); clear hT9 hb9)
      | (at_builtin; refine append_any (.tmp 12) (.tmp 14) 22 ⟨rfl, rfl⟩ (A + 2) 9 s0 (.string ⟨#[]⟩) 1 16 Tryz.underlying22 hs hs0 hs1 hs2 rfl (by decide) v8 bn _ rfl HO9.out na ln nc (textCells (aggNames L)) rfl HNTL.out HT9.out textCells_cell HM1.out HM2.out (by have h1 := HZ8.out; have h2 := HB9.out.size; omega) ?_; intro v10 w10 ho10 hg10 _; rw [← textCells_app] at ho10; obtain ⟨ua, uc, rfl, hu10⟩ := own_txts ho10.out; have HU10 := Lib.hid hu10; have HB10 := Lib.hid (show Below (A + 2) W0 w10 from (HB8.out.trans (HB9.out.mono (by have := HZ8.out; omega))).grown hg10.out (by have h1 := HZ8.out; have h2 := HB9.out.size; omega) (fun b hb => (HO9.out.lt b hb).1)); have HZ10 := Lib.hid (show A + 3 ≤ w10.heap.size by have h1 := HZ8.out; have h2 := HB9.out.size; have h3 := hg10.out.size; omega); have HA10 := Lib.hid (blk_on HA0.out HB10.out (by omega)); have HE10 := Lib.hid (blk_on HE0.out HB10.out (by omega)); have q0 : w10.cell? ⟨A, 0, none⟩ = some (.slice va n vc) := (blk_cell HA10.out 0).trans rfl; have q1 : w10.cell? ⟨A, 1, none⟩ = some (.slice ra m rc) := (blk_cell HA10.out 1).trans rfl; have q2 : A < w10.heap.size := (by have := HZ10.out; omega); have q3 : ¬ A = w10.heap.size := (by have := HZ10.out; omega); clear ho10 hg10 hu10))
    obtain ⟨X, hX⟩ : ∃ X, w10.heap.size = X := ⟨_, rfl⟩
    obtain ⟨W11, hW11⟩ : ∃ W11, w10.alloc (.cells #[.slice ua (bn + ln) uc, .slice none 0 0] 25) = W11 := ⟨_, rfl⟩
    have HXE := Lib.hid hX
    have HW11 := Lib.hid hW11
    have HX11 := Lib.hid (show Blk W11 X 25 #[.slice ua (bn + ln) uc, .slice none 0 0] by rw [← hW11, ← hX]; exact blk_new _ _ _)
    have HB1011 := Lib.hid (show Below w10.heap.size w10 W11 by rw [← hW11]; exact box_below _ _)
    have HA11 := Lib.hid (blk_on HA10.out HB1011.out (blk_lt HA10.out))
    have HE11 := Lib.hid (blk_on HE10.out HB1011.out (blk_lt HE10.out))
    have HB11 := Lib.hid (show Below w.heap.size w W11 from (HB0.out.trans (HB10.out.mono (by have := HAE.out; omega))).trans (HB1011.out.mono (by have h1 := HAE.out; have h2 := HZ10.out; omega)))
    have HU11 := Lib.hid (show TxtK (fun b => A + 2 ≤ b ∧ b < X) W11 ua (bn + ln) uc (B ++ aggNames L) from (HU10.out.mono (K' := fun b => A + 2 ≤ b ∧ b < X) (fun b hb hk => ⟨hk.1, by rw [← hX]; exact hb⟩)).on ((stay_below HB1011.out).mono (fun _ _ _ => trivial)))
    have HAX := Lib.hid (show A + 2 < X by have h1 := HZ10.out; omega)
    clear hX hW11 HO8 HO9 HT9 HB8 HB9 HZ8 HU10 HB10 HZ10 HA10 HE10 HO0 HBN HA0 HE0 HB1011
    rw [HW11.out, HXE.out]
    clear q0 q1 q2 q3
    have hwt := HWT.out W11 R [] none 0 0 _ HB11.out (fun _ h => h) (Nat.le_refl _) (by simp) ⟨rfl, Nat.le_refl _, Nat.zero_le _, fun h => absurd h (Nat.lt_irrefl _)⟩ (HTB.out W11 HB11.out)
    refine hwt.mono ?_
    clear hwt
    rintro e w12 ⟨v, rfl, hO12, hb12⟩
    rw [Nat.zero_add] at hO12
    obtain ⟨a3, c3, rfl, hT12⟩ := own_trms hO12
    have HT12 := Lib.hid (hT12.mono (K' := fun b => W11.heap.size ≤ b ∧ b < w12.heap.size) (fun b hb hk => ⟨by have := hk.1; omega, hb⟩))
    have HX12 := Lib.hid (blk_on HX11.out hb12 (blk_lt HX11.out))
    have HE12 := Lib.hid (blk_on HE11.out hb12 (blk_lt HE11.out))
    have HB12 := Lib.hid (fb2 HB11.out hb12 (Nat.le_refl _))
    have HU12 := Lib.hid (HU11.out.on ((stay_below hb12).mono (fun _ _ _ => trivial)))
    have HX11L := Lib.hid (show X < W11.heap.size from blk_lt HX11.out)
    have HS12 := Lib.hid hb12.size
    clear hb12 hO12 hT12 HX11 HE11 HU11 HA11
    have hx1 := HX11L.out
    have hx2 := HS12.out
    obtain ⟨Z, hZ⟩ : ∃ Z, w12.heap.size = Z := ⟨_, rfl⟩
    obtain ⟨W13, hW13⟩ : ∃ W13, w12.alloc (.cells #[.slice a3 ln c3] 35) = W13 := ⟨_, rfl⟩
    have HZE := Lib.hid hZ
    have HW13 := Lib.hid hW13
    have HB1213 := Lib.hid (show Below w12.heap.size w12 W13 by rw [← hW13]; exact box_below _ _)
    have HZ13 := Lib.hid (show Blk W13 Z 35 #[.slice a3 ln c3] by rw [← hW13, ← hZ]; exact blk_new _ _ _)
    have HX13 := Lib.hid (blk_on HX12.out HB1213.out (blk_lt HX12.out))
    have HE13 := Lib.hid (blk_on HE12.out HB1213.out (blk_lt HE12.out))
    have HB13 := Lib.hid (fb2 HB12.out HB1213.out (Nat.le_refl _))
    clear hW13 hZ
    go_wp2_with (first
      | (rw [HZE.out, HW13.out]; refine one_abs 23 (.tmp 24) (.tmp 23) ⟨rfl, rfl⟩ X 1 (.slice (some ⟨Z, 0, none⟩) 1 1) rfl rfl rfl rfl 25 [.slice ua (bn + ln) uc, .slice none 0 0] HX13.out (by kernel_rfl) (by simp) ?_; intro w14 hX14 hg14; have HX14 := Lib.hid (show Blk w14 X 25 #[.slice ua (bn + ln) uc, .slice (some ⟨Z, 0, none⟩) 1 1] from hX14.out); have HG14 := Lib.hid hg14.out; have HE14 := Lib.hid (blk_grown HE13.out (by have := HAX.out; omega) hg14.out); have r0 : w14.cell? ⟨X, 0, none⟩ = some (.slice ua (bn + ln) uc) := (blk_cell HX14.out 0).trans rfl; have r1 : w14.cell? ⟨X, 1, none⟩ = some (.slice (some ⟨Z, 0, none⟩) 1 1) := (blk_cell HX14.out 1).trans rfl; clear hX14 hg14)
      | (refine whole_abs 25 (.tmp 6) (.tmp 25) ⟨rfl, rfl⟩ (A + 1) #[.slice ua (bn + ln) uc, .slice (some ⟨Z, 0, none⟩) 1 1] rfl rfl 25 #[.slice none 0 0, .slice none 0 0] HE14.out (by kernel_rfl) rfl (by kernel_rfl) ?_; intro w15 hA15 hG15))
    have hae := HAE.out
    have hax := HAX.out
    have hze := HZE.out
    have q5 : w15.cell? ⟨A + 1, 0, none⟩ = some (.slice ua (bn + ln) uc) := (blk_cell hA15.out 0).trans rfl
    have q6 : w15.cell? ⟨A + 1, 1, none⟩ = some (.slice (some ⟨Z, 0, none⟩) 1 1) := (blk_cell hA15.out 1).trans rfl
    have hb14 : Below w.heap.size w w14 := HB13.out.grown HG14.out HB13.out.size (fun j hj => by injection hj with hj; omega)
    have hb15 : Below w.heap.size w w15 := hb14.grown hG15.out hb14.size (fun j hj => by injection hj with hj; omega)
    have hkeep : ∀ b, b ≠ X → b ≠ A + 1 → b < w12.heap.size → w15.heap[b]? = w12.heap[b]? := fun b h1 h2 h3 => (hG15.out.block b (Nat.lt_of_lt_of_le h3 (Nat.le_trans HB1213.out.size HG14.out.size)) (fun e => by injection e with e; exact h2 e)).trans ((HG14.out.block b (Nat.lt_of_lt_of_le h3 HB1213.out.size) (fun e => by injection e with e; exact h1 e)).trans (HB1213.out.block b h3))
    have hsz : w12.heap.size ≤ w15.heap.size := Nat.le_trans HB1213.out.size (Nat.le_trans HG14.out.size hG15.out.size)
    have hZ15 : Blk w15 Z 35 #[.slice a3 ln c3] := blk_grown (blk_grown HZ13.out (by omega) HG14.out) (by omega) hG15.out
    have hU15 := (HU12.out.on (w' := w15) ⟨hsz, fun b hb hk => hkeep b (by have := hk.2; omega) (by have := hk.1; omega) hb⟩).a
    have hT15 := (HT12.out.on (w' := w15) ⟨hsz, fun b hb hk => hkeep b (by have := hk.1; omega) (by have := hk.1; omega) hb⟩).a
    refine bodyPost_ret (v := .agg #[.slice ua (bn + ln) uc, .slice (some ⟨Z, 0, none⟩) 1 1]) (by simp [results, Tryz.results16, q5, q6, go_sem]) rfl ⟨_, rfl, ⟨ua, _, uc, _, 1, 1, rfl, hU15, ?_⟩, hb15⟩
    rw [HGP.out]
    refine ⟨rfl, Nat.le_refl _, by decide, fun _ => ⟨Z, 0, rfl, blk_lt hZ15, fun j hj => ?_⟩⟩
    have e : j = 0 := by simp at hj; exact hj
    subst e
    have hll := HLN0.out
    simp only [List.nil_append] at hT15 hll
    refine ⟨a3, c3, ?_, ?_⟩
    · rw [blk_cell hZ15]
      simp [hll]
    · have h1 : ([L.map (comesP V R)] : List RowL)[0].length = ln := hll
      rw [h1]
      exact hT15
  · have g1 : ((bn : Int) == 0) = false := beq_eq_false_iff_ne.2 (by omega)
    have g2 : (bn == 0) = false := beq_eq_false_iff_ne.2 hbz
    have hBne : B ≠ [] := fun c => hbz (by have := HBL.out; rw [c] at this; exact this.symm)
    have HGR := Lib.hid (group_rows (V := V) (L := L) (R := R) hBne)
    have HKL := Lib.hid (fun d h => (key_lens (V := V) (B := B) (R := R) d h).trans HBL.out)
    have HKN := Lib.hid (show (distP (projP B V R)).length ≤ 40 by
      have h1 := dist_le (projP B V R)
      unfold projP at h1 ⊢
      rw [List.length_map] at h1
      have := HRL.out
      omega)
    clear hbz hBne
    go_enter Tryz.func16, Tryz.ntmps16
    go_wp2_with (first
      | (at_builtin; rw [HW0.out, HAE.out]; refine append_any (.tmp 10) (.tmp 11) 22 ⟨rfl, rfl⟩ (A + 2) 9 s0 (.string ⟨#[]⟩) 1 16 Tryz.underlying22 hs hs0 hs1 hs2 rfl (by decide) _ 0 _ rfl HO0.out ba bn bc (textCells B) rfl HBTL.out HBN.out textCells_cell HM0.out (by omega) (by have := HZ0.out; omega) ?_; intro v8 w8 ho8 hg8 _; rw [← textCells_app, List.nil_append, Nat.zero_add] at ho8; have HO8 := Lib.hid ho8.out; have HB8 := Lib.hid (show Below (A + 2) W0 w8 from (Below.refl _ _).grown hg8.out (by have := HZ0.out; omega) (fun b hb => by have e : A + 2 = b := Option.some.inj hb; omega)); have HZ8 := Lib.hid (show A + 3 ≤ w8.heap.size by have h1 := HZ0.out; have h2 := hg8.out.size; omega); clear ho8 hg8)
      | (go_at_call 37; refine (HNM.out w8 (HB0.out.trans (HB8.out.mono (by have := HAE.out; omega)))).mono ?_; rintro e w9 ⟨na, nc, rfl, hT9, hb9⟩; have HT9 := Lib.hid hT9.news; have HB9 := Lib.hid hb9; have HO9 := Lib.hid (HO8.out.kept (row := none) ⟨hb9.os, hb9.tape, hb9.output, hb9.size, fun b hb _ => hb9.block b hb⟩ (by (cases hq : v8.ownBlock with | none => exact .inl rfl | some x => exact .inr (by simp)))); clear hT9 hb9)
      | (at_builtin; refine append_any (.tmp 12) (.tmp 14) 22 ⟨rfl, rfl⟩ (A + 2) 9 s0 (.string ⟨#[]⟩) 1 16 Tryz.underlying22 hs hs0 hs1 hs2 rfl (by decide) v8 bn _ rfl HO9.out na ln nc (textCells (aggNames L)) rfl HNTL.out HT9.out textCells_cell HM1.out HM2.out (by have h1 := HZ8.out; have h2 := HB9.out.size; omega) ?_; intro v10 w10 ho10 hg10 _; rw [← textCells_app] at ho10; obtain ⟨ua, uc, rfl, hu10⟩ := own_txts ho10.out; have HU10 := Lib.hid hu10; have HB10 := Lib.hid (show Below (A + 2) W0 w10 from (HB8.out.trans (HB9.out.mono (by have := HZ8.out; omega))).grown hg10.out (by have h1 := HZ8.out; have h2 := HB9.out.size; omega) (fun b hb => (HO9.out.lt b hb).1)); have HZ10 := Lib.hid (show A + 3 ≤ w10.heap.size by have h1 := HZ8.out; have h2 := HB9.out.size; have h3 := hg10.out.size; omega); have HA10 := Lib.hid (blk_on HA0.out HB10.out (by omega)); have HE10 := Lib.hid (blk_on HE0.out HB10.out (by omega)); have q0 : w10.cell? ⟨A, 0, none⟩ = some (.slice va n vc) := (blk_cell HA10.out 0).trans rfl; have q1 : w10.cell? ⟨A, 1, none⟩ = some (.slice ra m rc) := (blk_cell HA10.out 1).trans rfl; have q2 : A < w10.heap.size := (by have := HZ10.out; omega); have q3 : ¬ A = w10.heap.size := (by have := HZ10.out; omega); clear ho10 hg10 hu10))
    obtain ⟨X, hX⟩ : ∃ X, w10.heap.size = X := ⟨_, rfl⟩
    obtain ⟨W11, hW11⟩ : ∃ W11, w10.alloc (.cells #[.slice ua (bn + ln) uc, .slice none 0 0] 25) = W11 := ⟨_, rfl⟩
    have HXE := Lib.hid hX
    have HW11 := Lib.hid hW11
    have HX11 := Lib.hid (show Blk W11 X 25 #[.slice ua (bn + ln) uc, .slice none 0 0] by rw [← hW11, ← hX]; exact blk_new _ _ _)
    have HB1011 := Lib.hid (show Below w10.heap.size w10 W11 by rw [← hW11]; exact box_below _ _)
    have HA11 := Lib.hid (blk_on HA10.out HB1011.out (blk_lt HA10.out))
    have HE11 := Lib.hid (blk_on HE10.out HB1011.out (blk_lt HE10.out))
    have HB11 := Lib.hid (show Below w.heap.size w W11 from (HB0.out.trans (HB10.out.mono (by have := HAE.out; omega))).trans (HB1011.out.mono (by have h1 := HAE.out; have h2 := HZ10.out; omega)))
    have HU11 := Lib.hid (show TxtK (fun b => A + 2 ≤ b ∧ b < X) W11 ua (bn + ln) uc (B ++ aggNames L) from (HU10.out.mono (K' := fun b => A + 2 ≤ b ∧ b < X) (fun b hb hk => ⟨hk.1, by rw [← hX]; exact hb⟩)).on ((stay_below HB1011.out).mono (fun _ _ _ => trivial)))
    have HAX := Lib.hid (show A + 2 < X by have h1 := HZ10.out; omega)
    clear hX hW11 HO8 HO9 HT9 HB8 HB9 HZ8 HU10 HB10 HZ10 HA10 HE10 HO0 HBN HA0 HE0 HB1011
    rw [HW11.out, HXE.out]
    clear q0 q1 q2 q3
    refine (HPJ.out W11 HB11.out).mono ?_
    rintro e w12 ⟨uv, rfl, hP, hb12⟩
    have HP := Lib.hid hP
    have HB12 := Lib.hid (fb2 HB11.out hb12 (Nat.le_refl _))
    have HB1112 := Lib.hid hb12
    clear hP hb12
    go_wp2_with fail
    refine (HDS.out w12 uv HP.out).mono ?_
    rintro e w13 ⟨va4, n4, vc4, ra4, kn, rc4, rfl, hT13, hK13, hb13, hnew⟩
    obtain ⟨Y, hY⟩ : ∃ Y, w13.heap.size = Y := ⟨_, rfl⟩
    obtain ⟨W14, hW14⟩ : ∃ W14, w13.alloc (.cells #[.slice va4 n4 vc4, .slice ra4 kn rc4] 25) = W14 := ⟨_, rfl⟩
    have HB1314 := Lib.hid (show Below w13.heap.size w13 W14 by rw [← hW14]; exact box_below _ _)
    have HB1114 := Lib.hid (show Below W11.heap.size W11 W14 from fb2 (fb2 HB1112.out hb13 (Nat.le_refl _)) HB1314.out (Nat.le_refl _))
    have HB14 := Lib.hid (fb2 HB11.out HB1114.out (Nat.le_refl _))
    have HX14 := Lib.hid (blk_on HX11.out HB1114.out (blk_lt HX11.out))
    have HA14 := Lib.hid (blk_on HA11.out HB1114.out (blk_lt HA11.out))
    have HE14 := Lib.hid (blk_on HE11.out HB1114.out (blk_lt HE11.out))
    have HU14 := Lib.hid (HU11.out.on ((stay_below HB1114.out).mono (fun _ _ _ => trivial)))
    have HY14 := Lib.hid (show Blk W14 Y 25 #[.slice va4 n4 vc4, .slice ra4 kn rc4] by rw [← hW14, ← hY]; exact blk_new _ _ _)
    have HK14 := Lib.hid (hK13.on HB1314.out)
    have HX11L := Lib.hid (show X < W11.heap.size from blk_lt HX11.out)
    have HNEW := Lib.hid (show ∀ g o, ra4 = some ⟨g, o, none⟩ → X < g from fun g o h => by have h1 := hnew g o h; have h2 := HX11L.out; have h3 := HB1112.out.size; omega)
    have HXY := Lib.hid (show X < Y by have h1 := HX11L.out; have h2 := HB1112.out.size; have h3 := hb13.size; omega)
    have HX14L := Lib.hid (show X < W14.heap.size from blk_lt HX14.out)
    have HKC := Lib.hid hK13.len
    have hkc := hK13.cap
    have hkm := hK13.most
    unfold maxLen at hkm
    have hkn40 : kn ≤ 40 := by rw [← hK13.len]; exact HKN.out
    have HYE := Lib.hid hY
    have HW14 := Lib.hid hW14
    clear hT13 hK13 hb13 hnew hY hW14 HX11 HA11 HE11 HU11 HP HB12 HB1112 HB1314 HB11
    have HPL := Lib.hid (show (groupP V B L R).length = kn by rw [HGR.out, List.length_map, HKC.out])
    have HAT := Lib.hid (fun i (h : i < (distP (projP B V R)).length) => show (groupP V B L R).take i ++ [(distP (projP B V R))[i] ++ L.map (comesP V (R.filter fun r => decide (B.map (boundP V r) = (distP (projP B V R))[i])))] = (groupP V B L R).take (i + 1) by
      have hp : i < (groupP V B L R).length := by rw [HPL.out, ← HKC.out]; exact h
      rw [List.take_succ_eq_append_getElem hp]
      congr 2
      simp only [HGR.out, List.getElem_map])
    have HS14 := Lib.hid (show LnsR X W14 (.slice ua (bn + ln) uc) (.slice none 0 0) ((groupP V B L R).take 0) W14 from ⟨HX14.out, ⟨[], by rw [List.take_zero]; exact World.ownsRow_nil _ _ _ _, by rw [List.take_zero]; exact rowCK_nil _ _⟩, grown_refl _ _⟩)
    generalize distP (projP B V R) = KD at HK14 HKL HKC HAT
    obtain ⟨GP, hGP⟩ : ∃ GP, groupP V B L R = GP := ⟨_, rfl⟩
    rw [hGP] at HPL HAT HS14
    have HGPE := Lib.hid hGP
    clear hGP
    clear HGR HKN
    go_wp2
    rw [HW14.out, HYE.out]
    go_loopg [9] kn (fun g i wr => ∃ (i' : Nat) (v : Value), i = .int .i64 i' ∧ i' + g = kn ∧ Hid (LnsR X W14 (.slice ua (bn + ln) uc) v (GP.take i') wr))
    case atStart => exact ⟨0, _, rfl, by omega, HS14⟩
    case round =>
      obtain ⟨W1, rfl⟩ : ∃ W1, W1 = wr := ⟨_, rfl⟩
      obtain ⟨i, v, rfl, hig, HRD⟩ := hrel
      have ii0 : (0 : Int) ≤ (i : Int) := by omega
      have HSME := Lib.hid HRD.out.same
      have hxy := HXY.out
      have hax := HAX.out
      have hxl := HX14L.out
      have HBW1 := Lib.hid (show Below w.heap.size w W1 from HB14.out.grown HSME.out HB14.out.size (fun q hq => by injection hq with hq; have := HAE.out; omega))
      have HA1 := Lib.hid (blk_grown HA14.out (by omega) HSME.out)
      have HY1 := Lib.hid (blk_grown HY14.out (by omega) HSME.out)
      have y1 : W1.cell? ⟨Y, 1, none⟩ = some (.slice ra4 kn rc4) := (blk_cell HY1.out 1).trans rfl
      by_cases hik : i < kn
      · obtain ⟨g1', rfl⟩ : ∃ g1', gk = g1' + 1 := ⟨gk - 1, by omega⟩
        have hiL : i < KD.length := by rw [HKC.out]; exact hik
        obtain ⟨g2, o2, ha2, hg2, hcells⟩ := HK14.out.cells (by omega)
        subst ha2
        have hg2X := HNEW.out g2 o2 rfl
        obtain ⟨a', c', hcell, htrm⟩ := hcells i hiL
        have HKI := Lib.hid (HKL.out _ (List.getElem_mem hiL))
        have HLINE := Lib.hid (HAT.out i hiL)
        have HTM := Lib.hid (trm_keep htrm HX14.out ⟨_, _, _, rfl⟩ ⟨_, _, _, rfl⟩ HSME.out)
        have hcell1 := cellX hcell HSME.out hg2 (by omega)
        clear hcells hcell htrm
        generalize KD[i] = d at HKI HLINE HTM hcell1
        rw [HKI.out] at hcell1 HTM
        have HSUB := Lib.hid (fun r (h : r ∈ R.filter (fun r => decide (B.map (boundP V r) = d))) => (List.mem_filter.1 h).1)
        have HSBL := Lib.hid (List.length_filter_le (fun r => decide (B.map (boundP V r) = d)) R)
        have HYLN := Lib.hid (show (d ++ L.map (comesP V (R.filter fun r => decide (B.map (boundP V r) = d)))).length = bn + ln by rw [List.length_append, HKI.out, List.length_map, HLL.out])
        have HSOM := Lib.hid (fun W (h : Below W1.heap.size W1 W) => HSM.out W d a' c' (fb2 HBW1.out h (Nat.le_refl _)) (HTM.out.on h) (by rw [HKI.out, HBL.out]))
        have HWIT := Lib.hid (fun W tv (h : Below W1.heap.size W1 W) (hT : TabA W tv V (R.filter fun r => decide (B.map (boundP V r) = d))) => HWT.out W _ d a' bn c' tv (fb2 HBW1.out h (Nat.le_refl _)) HSUB.out HSBL.out (by rw [HKI.out]; omega) (HTM.out.on h) hT)
        have HSA := Lib.hid (show W1.cell? ⟨A, 0, none⟩ = some (.slice va n vc) ∧ W1.cell? ⟨A, 1, none⟩ = some (.slice ra m rc) ∧ W1.cell? ⟨Y, 1, none⟩ = some (.slice (some ⟨g2, o2, none⟩) kn rc4) ∧ W1.cell? ⟨g2, o2 + i, none⟩ = some (.slice a' bn c') from ⟨(blk_cell HA1.out 0).trans rfl, (blk_cell HA1.out 1).trans rfl, y1, hcell1⟩)
        have HSL := Lib.hid (show A < W14.heap.size ∧ Y < W14.heap.size ∧ g2 < W14.heap.size ∧ W14.heap.size ≤ W1.heap.size from ⟨by omega, blk_lt HY14.out, hg2, HSME.out.size⟩)
        have HNX := Lib.hid (show A ≠ X ∧ Y ≠ X ∧ g2 ≠ X from ⟨by omega, by omega, by omega⟩)
        have HL1 := Lib.hid (show (GP.take i).length = i by rw [List.length_take, HPL.out]; omega)
        obtain ⟨cs, hown1, hrc1⟩ := HRD.out.own
        rw [HL1.out] at hown1
        have HOW1 := Lib.hid hown1
        have HRC1 := Lib.hid hrc1
        have HOB : Hid (∀ e, Value.ownBlock v = some e → W14.heap.size ≤ e) := Lib.hid (fun e he => (hown1.lt e he).1)
        have HQ1 := Lib.hid (show W1.cell? ⟨X, 1, none⟩ = some v from (blk_cell HRD.out.all 1).trans rfl)
        have HXL := Lib.hid (blk_lt HRD.out.all)
        have ii1 : (i : Int) < (kn : Int) := by omega
        have hcpa := HTM.out.cap
        have hmoa := HTM.out.most
        unfold maxLen at hmoa
        clear hown1 hrc1 hcell1 HSUB HSBL
        go_wp2_with fail
        refine wp_region_held_drew (S := (fun W => W.cell? ⟨A, 0, none⟩ = some (.slice va n vc) ∧ W.cell? ⟨A, 1, none⟩ = some (.slice ra m rc) ∧ W.cell? ⟨Y, 1, none⟩ = some (.slice (some ⟨g2, o2, none⟩) kn rc4) ∧ W.cell? ⟨g2, o2 + i, none⟩ = some (.slice a' bn c'))) (by kernel_rfl) ?_ (fun hHeld => ?_)
        · (try dsimp only); exact HSA.out
        obtain ⟨Wd, hWd⟩ : ∃ Wd, W1.drew = Wd := ⟨_, rfl⟩
        rw [hWd] at hHeld ⊢
        have HBS := Lib.hid (show Below W1.heap.size W1 Wd by rw [← hWd]; exact (Below.refl _ _).drew)
        clear hWd
        refine wpAnyH_take (i := 0) (oi := ⟨some 37, _, _, _, _, _⟩) (v := ?_) rfl (by kernel_rfl) (by kernel_rfl) (by kernel_rfl) (fun _ _ _ h => h) (Or.inl ⟨by kernel_rfl, ?_⟩) (by assumption) ?_
        rotate_left
        · (intro ww hSw; (try dsimp only at hSw); go_simp); (try with_reducible rfl)
        (try simp only [Act.put, List.setIfInBounds_toArray, List.set_cons_zero, List.set_cons_succ])
        refine wpAnyH_take (i := 2) (oi := ⟨some 39, _, _, _, _, _⟩) (v := ?_) rfl (by kernel_rfl) (by kernel_rfl) (by kernel_rfl) (fun _ _ _ h => h) (Or.inl ⟨by kernel_rfl, ?_⟩) (by assumption) ?_
        rotate_left
        · (intro ww hSw; (try dsimp only at hSw); go_simp); (try with_reducible rfl)
        (try simp only [Act.put, List.setIfInBounds_toArray, List.set_cons_zero, List.set_cons_succ])
        refine wpAnyH_take (i := 3) (oi := ⟨some 40, _, _, _, _, _⟩) (v := ?_) rfl (by kernel_rfl) (by kernel_rfl) (by kernel_rfl) (fun _ _ _ h => h) (Or.inl ⟨by kernel_rfl, ?_⟩) (by assumption) ?_
        rotate_left
        · (intro ww hSw; (try dsimp only at hSw); obtain ⟨d0, d1, d2, d3⟩ := hSw; go_simp); (try with_reducible rfl)
        (try simp only [Act.put, List.setIfInBounds_toArray, List.set_cons_zero, List.set_cons_succ])
        refine wpAnyH_take (i := 4) (oi := ⟨some 41, _, _, _, _, _⟩) (v := ?_) rfl (by kernel_rfl) (by kernel_rfl) (by kernel_rfl) (fun _ _ _ h => h) (Or.inl ⟨by kernel_rfl, ?_⟩) (by assumption) ?_
        rotate_left
        · (intro ww hSw; (try dsimp only at hSw); go_simp); (try with_reducible rfl)
        (try simp only [Act.put, List.setIfInBounds_toArray, List.set_cons_zero, List.set_cons_succ])
        refine wpAnyH_take (i := 5) (oi := ⟨some 42, _, _, _, _, _⟩) (v := ?_) rfl (by kernel_rfl) (by kernel_rfl) (by kernel_rfl) (fun _ _ _ h => h) (Or.inl ⟨by kernel_rfl, ?_⟩) (by assumption) ?_
        rotate_left
        · (intro ww hSw; (try dsimp only at hSw); go_simp); (try with_reducible rfl)
        (try simp only [Act.put, List.setIfInBounds_toArray, List.set_cons_zero, List.set_cons_succ])
        refine wpAnyH_take (i := 6) (oi := ⟨some 43, _, _, _, _, _⟩) (v := ?_) rfl (by kernel_rfl) (by kernel_rfl) (by kernel_rfl) (fun _ _ _ h => h) (Or.inl ⟨by kernel_rfl, ?_⟩) (by assumption) ?_
        rotate_left
        · (intro ww hSw; (try dsimp only at hSw); obtain ⟨d0, d1, d2, d3⟩ := hSw; go_simp); (try with_reducible rfl)
        (try simp only [Act.put, List.setIfInBounds_toArray, List.set_cons_zero, List.set_cons_succ])
        refine wpAnyH_take (i := 7) (oi := ⟨some 44, _, _, _, _, _⟩) (v := ?_) rfl (by kernel_rfl) (by kernel_rfl) (by kernel_rfl) (fun _ _ _ h => h) (Or.inl ⟨by kernel_rfl, ?_⟩) (by assumption) ?_
        rotate_left
        · (intro ww hSw; (try dsimp only at hSw); obtain ⟨d0, d1, d2, d3⟩ := hSw; go_simp); (try with_reducible rfl)
        (try simp only [Act.put, List.setIfInBounds_toArray, List.set_cons_zero, List.set_cons_succ])
        refine wpAnyH_take (i := 8) (oi := ⟨some 45, _, _, _, _, _⟩) (v := ?_) rfl (by kernel_rfl) (by kernel_rfl) (by kernel_rfl) (fun _ _ _ h => h) (Or.inl ⟨by kernel_rfl, ?_⟩) (by assumption) ?_
        rotate_left
        · (intro ww hSw; (try dsimp only at hSw); go_simp); (try with_reducible rfl)
        (try simp only [Act.put, List.setIfInBounds_toArray, List.set_cons_zero, List.set_cons_succ])
        refine wpAnyH_take (i := 9) (oi := ⟨some 46, _, _, _, _, _⟩) (v := ?_) rfl (by kernel_rfl) (by kernel_rfl) (by kernel_rfl) (fun _ _ _ h => h) (Or.inl ⟨by kernel_rfl, ?_⟩) (by assumption) ?_
        rotate_left
        · (intro ww hSw; (try dsimp only at hSw); go_simp); (try with_reducible rfl)
        (try simp only [Act.put, List.setIfInBounds_toArray, List.set_cons_zero, List.set_cons_succ])
        refine wpAnyH_take (i := 10) (oi := ⟨some 47, _, _, _, _, _⟩) (v := ?_) rfl (by kernel_rfl) (by kernel_rfl) (by kernel_rfl) (fun _ _ _ h => h) (Or.inl ⟨by kernel_rfl, ?_⟩) (by assumption) ?_
        rotate_left
        · (intro ww hSw; (try dsimp only at hSw); obtain ⟨d0, d1, d2, d3⟩ := hSw; go_simp); (try with_reducible rfl)
        (try simp only [Act.put, List.setIfInBounds_toArray, List.set_cons_zero, List.set_cons_succ])
        refine wpAnyH_take (i := 11) (oi := ⟨some 48, _, _, _, _, _⟩) (v := ?_) rfl (by kernel_rfl) (by kernel_rfl) (by kernel_rfl) (fun _ _ _ h => h) (Or.inl ⟨by kernel_rfl, ?_⟩) (by assumption) ?_
        rotate_left
        · (intro ww hSw; (try dsimp only at hSw); go_simp); (try with_reducible rfl)
        (try simp only [Act.put, List.setIfInBounds_toArray, List.set_cons_zero, List.set_cons_succ])
        refine wpAnyH_take (i := 12) (oi := ⟨some 49, _, _, _, _, _⟩) (v := ?_) rfl (by kernel_rfl) (by kernel_rfl) (by kernel_rfl) (fun _ _ _ h => h) (Or.inl ⟨by kernel_rfl, ?_⟩) (by assumption) ?_
        rotate_left
        · (intro ww hSw; (try dsimp only at hSw); go_simp); (try with_reducible rfl)
        (try simp only [Act.put, List.setIfInBounds_toArray, List.set_cons_zero, List.set_cons_succ])
        refine wpAnyH_take (i := 13) (oi := ⟨some 50, _, _, _, _, _⟩) (v := ?_) rfl (by kernel_rfl) (by kernel_rfl) (by kernel_rfl) (fun _ _ _ h => h) (Or.inl ⟨by kernel_rfl, ?_⟩) (by assumption) ?_
        rotate_left
        · (intro ww hSw; (try dsimp only at hSw); obtain ⟨d0, d1, d2, d3⟩ := hSw; go_simp); (try with_reducible rfl)
        (try simp only [Act.put, List.setIfInBounds_toArray, List.set_cons_zero, List.set_cons_succ])
        refine wpAnyH_take (i := 15) (oi := ⟨some 52, _, _, _, _, _⟩) (v := ?_) rfl (by kernel_rfl) (by kernel_rfl) (by kernel_rfl) (fun _ _ _ h => h) (Or.inl ⟨by kernel_rfl, ?_⟩) (by assumption) ?_
        rotate_left
        · (intro ww hSw; (try dsimp only at hSw); go_simp); (try with_reducible rfl)
        (try simp only [Act.put, List.setIfInBounds_toArray, List.set_cons_zero, List.set_cons_succ])
        refine wpAnyH_ready (rs := [1, 14]) (by kernel_rfl) (by simp) ?_
        refine AllReadyH.cons rfl (fun K hK => ?_) (AllReadyH.cons rfl (fun K hK => ?_) AllReadyH.nil)
        · have hqv := keptC HQ1.out HBS.out HXL.out
          go_simp
          clear hqv
          obtain ⟨W100, rfl⟩ : ∃ W100, W100 = Wd := ⟨_, rfl⟩
          refine hK.out _ _ ?_ (fun hHeld => ?_)
          · (try dsimp only); first | exact HSF.out | exact HSE.out | exact ⟨keptC HSA.out.1 HBS.out (Nat.lt_of_lt_of_le HSL.out.1 HSL.out.2.2.2), keptC HSA.out.2.1 HBS.out (Nat.lt_of_lt_of_le HSL.out.1 HSL.out.2.2.2), keptC HSA.out.2.2.1 HBS.out (Nat.lt_of_lt_of_le HSL.out.2.1 HSL.out.2.2.2), keptC HSA.out.2.2.2 HBS.out (Nat.lt_of_lt_of_le HSL.out.2.2.1 HSL.out.2.2.2)⟩
          clear hK K
          (try simp only [Act.put, List.setIfInBounds_toArray, List.set_cons_zero, List.set_cons_succ])
          refine wpAnyH_ready (rs := [14]) (by kernel_rfl) (by simp) ?_
          refine AllReadyH.cons rfl (fun K hK => ?_) AllReadyH.nil
          go_simp
          refine (HSOM.out W100 HBS.out).mono ?_
          rintro e W101 ⟨uv5, rfl, hS5, hb⟩
          have hbx : Below W100.heap.size W100 W101 := hb
          clear hb
          have HS5 := Lib.hid hS5
          clear hS5
          replace HBS := Lib.hid (fb2 HBS.out hbx (Nat.le_refl _))
          clear hbx
          go_wp2_with fail
          refine hK.out _ _ ?_ (fun hHeld => ?_)
          · (try dsimp only); first | exact HSF.out | exact HSE.out | exact ⟨keptC HSA.out.1 HBS.out (Nat.lt_of_lt_of_le HSL.out.1 HSL.out.2.2.2), keptC HSA.out.2.1 HBS.out (Nat.lt_of_lt_of_le HSL.out.1 HSL.out.2.2.2), keptC HSA.out.2.2.1 HBS.out (Nat.lt_of_lt_of_le HSL.out.2.1 HSL.out.2.2.2), keptC HSA.out.2.2.2 HBS.out (Nat.lt_of_lt_of_le HSL.out.2.2.1 HSL.out.2.2.2)⟩
          clear hK K
          (try simp only [Act.put, List.setIfInBounds_toArray, List.set_cons_zero, List.set_cons_succ])
          refine wpAnyH_ready (rs := [16]) (by kernel_rfl) (by simp) ?_
          refine AllReadyH.cons rfl (fun K hK => ?_) AllReadyH.nil
          go_simp
          refine (HWIT.out W101 uv5 HBS.out HS5.out).mono ?_
          rintro e W102 ⟨vv, rfl, hO3, hb⟩
          have hbx : Below W101.heap.size W101 W102 := hb
          clear hb
          obtain ⟨a3, c3, rfl, hT3⟩ := own_trms hO3
          have HT3 := Lib.hid (hT3.mono (K' := fun b => W1.heap.size ≤ b ∧ isT W102 b) (fun b _ hk => ⟨by have h1 := hk.1; have h2 := HBS.out.size; omega, hk.2⟩))
          clear hO3 hT3 HS5
          replace HBS := Lib.hid (fb2 HBS.out hbx (Nat.le_refl _))
          clear hbx
          go_wp2_with fail
          refine hK.out _ _ ?_ (fun hHeld => ?_)
          · (try dsimp only); first | exact HSF.out | exact HSE.out | exact ⟨keptC HSA.out.1 HBS.out (Nat.lt_of_lt_of_le HSL.out.1 HSL.out.2.2.2), keptC HSA.out.2.1 HBS.out (Nat.lt_of_lt_of_le HSL.out.1 HSL.out.2.2.2), keptC HSA.out.2.2.1 HBS.out (Nat.lt_of_lt_of_le HSL.out.2.1 HSL.out.2.2.2), keptC HSA.out.2.2.2 HBS.out (Nat.lt_of_lt_of_le HSL.out.2.2.1 HSL.out.2.2.2)⟩
          clear hK K
          (try simp only [Act.put, List.setIfInBounds_toArray, List.set_cons_zero, List.set_cons_succ])
          refine wpAnyH_ready (rs := [17]) (by kernel_rfl) (by simp) ?_
          refine AllReadyH.cons rfl (fun K hK => ?_) AllReadyH.nil
          go_simp
          obtain ⟨W103, hWn⟩ : ∃ W103, W102.alloc (.cells #[.slice a3 (bn + ln) c3] 35) = W103 := ⟨_, rfl⟩
          obtain ⟨G, hG⟩ : ∃ G, W102.heap.size = G := ⟨_, rfl⟩
          have HBG := Lib.hid (show Blk W103 G 35 #[.slice a3 (bn + ln) c3] by rw [← hWn, ← hG]; exact blk_new _ _ _)
          have hbx : Below W102.heap.size W102 W103 := by rw [← hWn]; exact box_below _ _
          have HGEG := Lib.hid (show W102.heap.size = G from hG)
          rw [hWn, hG]
          clear hWn hG
          have HB34 := Lib.hid hbx
          have HB13 := HBS
          replace HBS := Lib.hid (fb2 HBS.out hbx (Nat.le_refl _))
          clear hbx
          refine hK.out _ _ ?_ (fun hHeld => ?_)
          · (try dsimp only); first | exact HSF.out | exact HSE.out | exact ⟨keptC HSA.out.1 HBS.out (Nat.lt_of_lt_of_le HSL.out.1 HSL.out.2.2.2), keptC HSA.out.2.1 HBS.out (Nat.lt_of_lt_of_le HSL.out.1 HSL.out.2.2.2), keptC HSA.out.2.2.1 HBS.out (Nat.lt_of_lt_of_le HSL.out.2.1 HSL.out.2.2.2), keptC HSA.out.2.2.2 HBS.out (Nat.lt_of_lt_of_le HSL.out.2.2.1 HSL.out.2.2.2)⟩
          clear hK K
          (try simp only [Act.put, List.setIfInBounds_toArray, List.set_cons_zero, List.set_cons_succ])
          refine wpAnyH_ready (rs := [18]) (by kernel_rfl) (by simp) ?_
          refine AllReadyH.cons rfl (fun K hK => ?_) AllReadyH.nil
          refine wp_append_own (.tmp 38) (.tmp 54) 23 rfl W14.heap.size 35 i0 (.slice none 0 0) 1 24 Tryz.underlying23 hi hz0 hz1 hz2 rfl (by decide) v i _ rfl (HOW1.out.kept (row := none) ⟨HBS.out.os, HBS.out.tape, HBS.out.output, HBS.out.size, fun b hb _ => HBS.out.block b hb⟩ (by
            cases hq : v.ownBlock with
            | none => exact .inl rfl
            | some x => exact .inr (by simp))) ⟨G, 0, none⟩ 1 1 [.slice a3 (bn + ln) c3] rfl rfl (fun j u hj => ?_) (fun u hu => ?_) (by unfold maxLen; omega) (by omega) (Nat.le_trans HSL.out.2.2.2 HBS.out.size) ?_
          · cases j with
            | zero => injection hj with hj; subst hj; rw [add_at, blk_cell HBG.out]; rfl
            | succ j => simp at hj
          · simp only [List.mem_singleton] at hu; subst hu; rfl
          intro v5 W104 ho5 hg5 _
          have HO5 := Lib.hid ho5
          have HG5 := Lib.hid hg5
          have HB5 := Lib.hid (show Below W14.heap.size W1 W104 from (HBS.out.mono HSL.out.2.2.2).grown hg5 (Nat.le_trans HSL.out.2.2.2 HBS.out.size) (fun b hb => HOB.out _ hb))
          have HSE := Lib.hid (show W104.cell? ⟨A, 0, none⟩ = some (.slice va n vc) ∧ W104.cell? ⟨A, 1, none⟩ = some (.slice ra m rc) ∧ W104.cell? ⟨Y, 1, none⟩ = some (.slice (some ⟨g2, o2, none⟩) kn rc4) ∧ W104.cell? ⟨g2, o2 + i, none⟩ = some (.slice a' bn c') from ⟨keptC HSA.out.1 HB5.out HSL.out.1, keptC HSA.out.2.1 HB5.out HSL.out.1, keptC HSA.out.2.2.1 HB5.out HSL.out.2.1, keptC HSA.out.2.2.2 HB5.out HSL.out.2.2.1⟩)
          have HX5 := Lib.hid (show Blk W104 X 25 #[.slice ua (bn + ln) uc, v] from blk_on HRD.out.all HB5.out HX14L.out)
          have HZ5 := Lib.hid (show W14.heap.size ≤ W104.heap.size from Nat.le_trans HSL.out.2.2.2 HB5.out.size)
          clear ho5 hg5 HBS HBG
          refine hK.out _ _ ?_ (fun hHeld => ?_)
          · (try dsimp only); first | exact HSF.out | exact HSE.out | exact ⟨keptC HSA.out.1 HBS.out (Nat.lt_of_lt_of_le HSL.out.1 HSL.out.2.2.2), keptC HSA.out.2.1 HBS.out (Nat.lt_of_lt_of_le HSL.out.1 HSL.out.2.2.2), keptC HSA.out.2.2.1 HBS.out (Nat.lt_of_lt_of_le HSL.out.2.1 HSL.out.2.2.2), keptC HSA.out.2.2.2 HBS.out (Nat.lt_of_lt_of_le HSL.out.2.2.1 HSL.out.2.2.2)⟩
          clear hK K
          (try simp only [Act.put, List.setIfInBounds_toArray])
          refine wpAnyH_take (i := 19) (oi := ⟨some 56, _, _, _, _, _⟩) (v := ?_) rfl (by kernel_rfl) (by kernel_rfl) (by kernel_rfl) (fun _ _ _ h => h) (Or.inl ⟨by kernel_rfl, ?_⟩) (by assumption) ?_
          rotate_left
          · (intro ww hSw; (try dsimp only at hSw); go_simp); (try with_reducible rfl)
          (try simp only [Act.put])
          refine wpAnyH_ready (rs := [20]) (by kernel_rfl) (by simp) ?_
          refine AllReadyH.cons rfl (fun K hK => ?_) AllReadyH.nil
          refine wp_one_abs 23 (.tmp 56) (.tmp 55) rfl X 1 v5 rfl rfl (own_cells HO5.out).1 (own_cells HO5.out).2 25 [.slice ua (bn + ln) uc, v] HX5.out (by kernel_rfl) (by simp) ?_
          intro W105 hX6 hg6
          have HSF := Lib.hid (show W105.cell? ⟨A, 0, none⟩ = some (.slice va n vc) ∧ W105.cell? ⟨A, 1, none⟩ = some (.slice ra m rc) ∧ W105.cell? ⟨Y, 1, none⟩ = some (.slice (some ⟨g2, o2, none⟩) kn rc4) ∧ W105.cell? ⟨g2, o2 + i, none⟩ = some (.slice a' bn c') from ⟨cellX HSE.out.1 hg6 (Nat.lt_of_lt_of_le HSL.out.1 HZ5.out) HNX.out.1, cellX HSE.out.2.1 hg6 (Nat.lt_of_lt_of_le HSL.out.1 HZ5.out) HNX.out.1, cellX HSE.out.2.2.1 hg6 (Nat.lt_of_lt_of_le HSL.out.2.1 HZ5.out) HNX.out.2.1, cellX HSE.out.2.2.2 hg6 (Nat.lt_of_lt_of_le HSL.out.2.2.1 HZ5.out) HNX.out.2.2⟩)
          have HR6 := Lib.hid (show LnsR X W14 (.slice ua (bn + ln) uc) v5 (GP.take (i + 1)) W105 from lns_next HX14L.out HRD.out HRC1.out HOW1.out HL1.out HB13.out HB34.out HT3.out HYLN.out HLINE.out HO5.out HG5.out hX6 hg6)
          clear hX6 hg6
          refine hK.out _ _ ?_ (fun hHeld => ?_)
          · (try dsimp only); first | exact HSF.out | exact HSE.out | exact ⟨keptC HSA.out.1 HBS.out (Nat.lt_of_lt_of_le HSL.out.1 HSL.out.2.2.2), keptC HSA.out.2.1 HBS.out (Nat.lt_of_lt_of_le HSL.out.1 HSL.out.2.2.2), keptC HSA.out.2.2.1 HBS.out (Nat.lt_of_lt_of_le HSL.out.2.1 HSL.out.2.2.2), keptC HSA.out.2.2.2 HBS.out (Nat.lt_of_lt_of_le HSL.out.2.2.1 HSL.out.2.2.2)⟩
          clear hK K
          (try simp only [Act.put])
          refine wpAnyH_done (by kernel_rfl) ?_ _
          go_wp2
          go_roundg g1'
          case measure => omega
          case rel => exact ⟨i + 1, v5, by go_num, by omega, HR6⟩
        · go_simp
          refine (HSOM.out Wd HBS.out).mono ?_
          rintro e W100 ⟨uv5, rfl, hS5, hb⟩
          have hbx : Below Wd.heap.size Wd W100 := hb
          clear hb
          have HS5 := Lib.hid hS5
          clear hS5
          replace HBS := Lib.hid (fb2 HBS.out hbx (Nat.le_refl _))
          clear hbx
          go_wp2_with fail
          refine hK.out _ _ ?_ (fun hHeld => ?_)
          · (try dsimp only); first | exact HSF.out | exact HSE.out | exact ⟨keptC HSA.out.1 HBS.out (Nat.lt_of_lt_of_le HSL.out.1 HSL.out.2.2.2), keptC HSA.out.2.1 HBS.out (Nat.lt_of_lt_of_le HSL.out.1 HSL.out.2.2.2), keptC HSA.out.2.2.1 HBS.out (Nat.lt_of_lt_of_le HSL.out.2.1 HSL.out.2.2.2), keptC HSA.out.2.2.2 HBS.out (Nat.lt_of_lt_of_le HSL.out.2.2.1 HSL.out.2.2.2)⟩
          clear hK K
          (try simp only [Act.put, List.setIfInBounds_toArray, List.set_cons_zero, List.set_cons_succ])
          refine wpAnyH_ready (rs := [1, 16]) (by kernel_rfl) (by simp) ?_
          refine AllReadyH.cons rfl (fun K hK => ?_) (AllReadyH.cons rfl (fun K hK => ?_) AllReadyH.nil)
          · have hqv := keptC HQ1.out HBS.out HXL.out
            go_simp
            clear hqv
            obtain ⟨W101, rfl⟩ : ∃ W101, W101 = W100 := ⟨_, rfl⟩
            refine hK.out _ _ ?_ (fun hHeld => ?_)
            · (try dsimp only); first | exact HSF.out | exact HSE.out | exact ⟨keptC HSA.out.1 HBS.out (Nat.lt_of_lt_of_le HSL.out.1 HSL.out.2.2.2), keptC HSA.out.2.1 HBS.out (Nat.lt_of_lt_of_le HSL.out.1 HSL.out.2.2.2), keptC HSA.out.2.2.1 HBS.out (Nat.lt_of_lt_of_le HSL.out.2.1 HSL.out.2.2.2), keptC HSA.out.2.2.2 HBS.out (Nat.lt_of_lt_of_le HSL.out.2.2.1 HSL.out.2.2.2)⟩
            clear hK K
            (try simp only [Act.put, List.setIfInBounds_toArray, List.set_cons_zero, List.set_cons_succ])
            refine wpAnyH_ready (rs := [16]) (by kernel_rfl) (by simp) ?_
            refine AllReadyH.cons rfl (fun K hK => ?_) AllReadyH.nil
            go_simp
            refine (HWIT.out W101 uv5 HBS.out HS5.out).mono ?_
            rintro e W102 ⟨vv, rfl, hO3, hb⟩
            have hbx : Below W101.heap.size W101 W102 := hb
            clear hb
            obtain ⟨a3, c3, rfl, hT3⟩ := own_trms hO3
            have HT3 := Lib.hid (hT3.mono (K' := fun b => W1.heap.size ≤ b ∧ isT W102 b) (fun b _ hk => ⟨by have h1 := hk.1; have h2 := HBS.out.size; omega, hk.2⟩))
            clear hO3 hT3 HS5
            replace HBS := Lib.hid (fb2 HBS.out hbx (Nat.le_refl _))
            clear hbx
            go_wp2_with fail
            refine hK.out _ _ ?_ (fun hHeld => ?_)
            · (try dsimp only); first | exact HSF.out | exact HSE.out | exact ⟨keptC HSA.out.1 HBS.out (Nat.lt_of_lt_of_le HSL.out.1 HSL.out.2.2.2), keptC HSA.out.2.1 HBS.out (Nat.lt_of_lt_of_le HSL.out.1 HSL.out.2.2.2), keptC HSA.out.2.2.1 HBS.out (Nat.lt_of_lt_of_le HSL.out.2.1 HSL.out.2.2.2), keptC HSA.out.2.2.2 HBS.out (Nat.lt_of_lt_of_le HSL.out.2.2.1 HSL.out.2.2.2)⟩
            clear hK K
            (try simp only [Act.put, List.setIfInBounds_toArray, List.set_cons_zero, List.set_cons_succ])
            refine wpAnyH_ready (rs := [17]) (by kernel_rfl) (by simp) ?_
            refine AllReadyH.cons rfl (fun K hK => ?_) AllReadyH.nil
            go_simp
            obtain ⟨W103, hWn⟩ : ∃ W103, W102.alloc (.cells #[.slice a3 (bn + ln) c3] 35) = W103 := ⟨_, rfl⟩
            obtain ⟨G, hG⟩ : ∃ G, W102.heap.size = G := ⟨_, rfl⟩
            have HBG := Lib.hid (show Blk W103 G 35 #[.slice a3 (bn + ln) c3] by rw [← hWn, ← hG]; exact blk_new _ _ _)
            have hbx : Below W102.heap.size W102 W103 := by rw [← hWn]; exact box_below _ _
            have HGEG := Lib.hid (show W102.heap.size = G from hG)
            rw [hWn, hG]
            clear hWn hG
            have HB34 := Lib.hid hbx
            have HB13 := HBS
            replace HBS := Lib.hid (fb2 HBS.out hbx (Nat.le_refl _))
            clear hbx
            refine hK.out _ _ ?_ (fun hHeld => ?_)
            · (try dsimp only); first | exact HSF.out | exact HSE.out | exact ⟨keptC HSA.out.1 HBS.out (Nat.lt_of_lt_of_le HSL.out.1 HSL.out.2.2.2), keptC HSA.out.2.1 HBS.out (Nat.lt_of_lt_of_le HSL.out.1 HSL.out.2.2.2), keptC HSA.out.2.2.1 HBS.out (Nat.lt_of_lt_of_le HSL.out.2.1 HSL.out.2.2.2), keptC HSA.out.2.2.2 HBS.out (Nat.lt_of_lt_of_le HSL.out.2.2.1 HSL.out.2.2.2)⟩
            clear hK K
            (try simp only [Act.put, List.setIfInBounds_toArray, List.set_cons_zero, List.set_cons_succ])
            refine wpAnyH_ready (rs := [18]) (by kernel_rfl) (by simp) ?_
            refine AllReadyH.cons rfl (fun K hK => ?_) AllReadyH.nil
            refine wp_append_own (.tmp 38) (.tmp 54) 23 rfl W14.heap.size 35 i0 (.slice none 0 0) 1 24 Tryz.underlying23 hi hz0 hz1 hz2 rfl (by decide) v i _ rfl (HOW1.out.kept (row := none) ⟨HBS.out.os, HBS.out.tape, HBS.out.output, HBS.out.size, fun b hb _ => HBS.out.block b hb⟩ (by
              cases hq : v.ownBlock with
              | none => exact .inl rfl
              | some x => exact .inr (by simp))) ⟨G, 0, none⟩ 1 1 [.slice a3 (bn + ln) c3] rfl rfl (fun j u hj => ?_) (fun u hu => ?_) (by unfold maxLen; omega) (by omega) (Nat.le_trans HSL.out.2.2.2 HBS.out.size) ?_
            · cases j with
              | zero => injection hj with hj; subst hj; rw [add_at, blk_cell HBG.out]; rfl
              | succ j => simp at hj
            · simp only [List.mem_singleton] at hu; subst hu; rfl
            intro v5 W104 ho5 hg5 _
            have HO5 := Lib.hid ho5
            have HG5 := Lib.hid hg5
            have HB5 := Lib.hid (show Below W14.heap.size W1 W104 from (HBS.out.mono HSL.out.2.2.2).grown hg5 (Nat.le_trans HSL.out.2.2.2 HBS.out.size) (fun b hb => HOB.out _ hb))
            have HSE := Lib.hid (show W104.cell? ⟨A, 0, none⟩ = some (.slice va n vc) ∧ W104.cell? ⟨A, 1, none⟩ = some (.slice ra m rc) ∧ W104.cell? ⟨Y, 1, none⟩ = some (.slice (some ⟨g2, o2, none⟩) kn rc4) ∧ W104.cell? ⟨g2, o2 + i, none⟩ = some (.slice a' bn c') from ⟨keptC HSA.out.1 HB5.out HSL.out.1, keptC HSA.out.2.1 HB5.out HSL.out.1, keptC HSA.out.2.2.1 HB5.out HSL.out.2.1, keptC HSA.out.2.2.2 HB5.out HSL.out.2.2.1⟩)
            have HX5 := Lib.hid (show Blk W104 X 25 #[.slice ua (bn + ln) uc, v] from blk_on HRD.out.all HB5.out HX14L.out)
            have HZ5 := Lib.hid (show W14.heap.size ≤ W104.heap.size from Nat.le_trans HSL.out.2.2.2 HB5.out.size)
            clear ho5 hg5 HBS HBG
            refine hK.out _ _ ?_ (fun hHeld => ?_)
            · (try dsimp only); first | exact HSF.out | exact HSE.out | exact ⟨keptC HSA.out.1 HBS.out (Nat.lt_of_lt_of_le HSL.out.1 HSL.out.2.2.2), keptC HSA.out.2.1 HBS.out (Nat.lt_of_lt_of_le HSL.out.1 HSL.out.2.2.2), keptC HSA.out.2.2.1 HBS.out (Nat.lt_of_lt_of_le HSL.out.2.1 HSL.out.2.2.2), keptC HSA.out.2.2.2 HBS.out (Nat.lt_of_lt_of_le HSL.out.2.2.1 HSL.out.2.2.2)⟩
            clear hK K
            (try simp only [Act.put, List.setIfInBounds_toArray])
            refine wpAnyH_take (i := 19) (oi := ⟨some 56, _, _, _, _, _⟩) (v := ?_) rfl (by kernel_rfl) (by kernel_rfl) (by kernel_rfl) (fun _ _ _ h => h) (Or.inl ⟨by kernel_rfl, ?_⟩) (by assumption) ?_
            rotate_left
            · (intro ww hSw; (try dsimp only at hSw); go_simp); (try with_reducible rfl)
            (try simp only [Act.put])
            refine wpAnyH_ready (rs := [20]) (by kernel_rfl) (by simp) ?_
            refine AllReadyH.cons rfl (fun K hK => ?_) AllReadyH.nil
            refine wp_one_abs 23 (.tmp 56) (.tmp 55) rfl X 1 v5 rfl rfl (own_cells HO5.out).1 (own_cells HO5.out).2 25 [.slice ua (bn + ln) uc, v] HX5.out (by kernel_rfl) (by simp) ?_
            intro W105 hX6 hg6
            have HSF := Lib.hid (show W105.cell? ⟨A, 0, none⟩ = some (.slice va n vc) ∧ W105.cell? ⟨A, 1, none⟩ = some (.slice ra m rc) ∧ W105.cell? ⟨Y, 1, none⟩ = some (.slice (some ⟨g2, o2, none⟩) kn rc4) ∧ W105.cell? ⟨g2, o2 + i, none⟩ = some (.slice a' bn c') from ⟨cellX HSE.out.1 hg6 (Nat.lt_of_lt_of_le HSL.out.1 HZ5.out) HNX.out.1, cellX HSE.out.2.1 hg6 (Nat.lt_of_lt_of_le HSL.out.1 HZ5.out) HNX.out.1, cellX HSE.out.2.2.1 hg6 (Nat.lt_of_lt_of_le HSL.out.2.1 HZ5.out) HNX.out.2.1, cellX HSE.out.2.2.2 hg6 (Nat.lt_of_lt_of_le HSL.out.2.2.1 HZ5.out) HNX.out.2.2⟩)
            have HR6 := Lib.hid (show LnsR X W14 (.slice ua (bn + ln) uc) v5 (GP.take (i + 1)) W105 from lns_next HX14L.out HRD.out HRC1.out HOW1.out HL1.out HB13.out HB34.out HT3.out HYLN.out HLINE.out HO5.out HG5.out hX6 hg6)
            clear hX6 hg6
            refine hK.out _ _ ?_ (fun hHeld => ?_)
            · (try dsimp only); first | exact HSF.out | exact HSE.out | exact ⟨keptC HSA.out.1 HBS.out (Nat.lt_of_lt_of_le HSL.out.1 HSL.out.2.2.2), keptC HSA.out.2.1 HBS.out (Nat.lt_of_lt_of_le HSL.out.1 HSL.out.2.2.2), keptC HSA.out.2.2.1 HBS.out (Nat.lt_of_lt_of_le HSL.out.2.1 HSL.out.2.2.2), keptC HSA.out.2.2.2 HBS.out (Nat.lt_of_lt_of_le HSL.out.2.2.1 HSL.out.2.2.2)⟩
            clear hK K
            (try simp only [Act.put])
            refine wpAnyH_done (by kernel_rfl) ?_ _
            go_wp2
            go_roundg g1'
            case measure => omega
            case rel => exact ⟨i + 1, v5, by go_num, by omega, HR6⟩
          · go_simp
            refine (HWIT.out W100 uv5 HBS.out HS5.out).mono ?_
            rintro e W101 ⟨vv, rfl, hO3, hb⟩
            have hbx : Below W100.heap.size W100 W101 := hb
            clear hb
            obtain ⟨a3, c3, rfl, hT3⟩ := own_trms hO3
            have HT3 := Lib.hid (hT3.mono (K' := fun b => W1.heap.size ≤ b ∧ isT W101 b) (fun b _ hk => ⟨by have h1 := hk.1; have h2 := HBS.out.size; omega, hk.2⟩))
            clear hO3 hT3 HS5
            replace HBS := Lib.hid (fb2 HBS.out hbx (Nat.le_refl _))
            clear hbx
            go_wp2_with fail
            refine hK.out _ _ ?_ (fun hHeld => ?_)
            · (try dsimp only); first | exact HSF.out | exact HSE.out | exact ⟨keptC HSA.out.1 HBS.out (Nat.lt_of_lt_of_le HSL.out.1 HSL.out.2.2.2), keptC HSA.out.2.1 HBS.out (Nat.lt_of_lt_of_le HSL.out.1 HSL.out.2.2.2), keptC HSA.out.2.2.1 HBS.out (Nat.lt_of_lt_of_le HSL.out.2.1 HSL.out.2.2.2), keptC HSA.out.2.2.2 HBS.out (Nat.lt_of_lt_of_le HSL.out.2.2.1 HSL.out.2.2.2)⟩
            clear hK K
            (try simp only [Act.put, List.setIfInBounds_toArray, List.set_cons_zero, List.set_cons_succ])
            refine wpAnyH_ready (rs := [1, 17]) (by kernel_rfl) (by simp) ?_
            refine AllReadyH.cons rfl (fun K hK => ?_) (AllReadyH.cons rfl (fun K hK => ?_) AllReadyH.nil)
            · have hqv := keptC HQ1.out HBS.out HXL.out
              go_simp
              clear hqv
              obtain ⟨W102, rfl⟩ : ∃ W102, W102 = W101 := ⟨_, rfl⟩
              refine hK.out _ _ ?_ (fun hHeld => ?_)
              · (try dsimp only); first | exact HSF.out | exact HSE.out | exact ⟨keptC HSA.out.1 HBS.out (Nat.lt_of_lt_of_le HSL.out.1 HSL.out.2.2.2), keptC HSA.out.2.1 HBS.out (Nat.lt_of_lt_of_le HSL.out.1 HSL.out.2.2.2), keptC HSA.out.2.2.1 HBS.out (Nat.lt_of_lt_of_le HSL.out.2.1 HSL.out.2.2.2), keptC HSA.out.2.2.2 HBS.out (Nat.lt_of_lt_of_le HSL.out.2.2.1 HSL.out.2.2.2)⟩
              clear hK K
              (try simp only [Act.put, List.setIfInBounds_toArray, List.set_cons_zero, List.set_cons_succ])
              refine wpAnyH_ready (rs := [17]) (by kernel_rfl) (by simp) ?_
              refine AllReadyH.cons rfl (fun K hK => ?_) AllReadyH.nil
              go_simp
              obtain ⟨W103, hWn⟩ : ∃ W103, W102.alloc (.cells #[.slice a3 (bn + ln) c3] 35) = W103 := ⟨_, rfl⟩
              obtain ⟨G, hG⟩ : ∃ G, W102.heap.size = G := ⟨_, rfl⟩
              have HBG := Lib.hid (show Blk W103 G 35 #[.slice a3 (bn + ln) c3] by rw [← hWn, ← hG]; exact blk_new _ _ _)
              have hbx : Below W102.heap.size W102 W103 := by rw [← hWn]; exact box_below _ _
              have HGEG := Lib.hid (show W102.heap.size = G from hG)
              rw [hWn, hG]
              clear hWn hG
              have HB34 := Lib.hid hbx
              have HB13 := HBS
              replace HBS := Lib.hid (fb2 HBS.out hbx (Nat.le_refl _))
              clear hbx
              refine hK.out _ _ ?_ (fun hHeld => ?_)
              · (try dsimp only); first | exact HSF.out | exact HSE.out | exact ⟨keptC HSA.out.1 HBS.out (Nat.lt_of_lt_of_le HSL.out.1 HSL.out.2.2.2), keptC HSA.out.2.1 HBS.out (Nat.lt_of_lt_of_le HSL.out.1 HSL.out.2.2.2), keptC HSA.out.2.2.1 HBS.out (Nat.lt_of_lt_of_le HSL.out.2.1 HSL.out.2.2.2), keptC HSA.out.2.2.2 HBS.out (Nat.lt_of_lt_of_le HSL.out.2.2.1 HSL.out.2.2.2)⟩
              clear hK K
              (try simp only [Act.put, List.setIfInBounds_toArray, List.set_cons_zero, List.set_cons_succ])
              refine wpAnyH_ready (rs := [18]) (by kernel_rfl) (by simp) ?_
              refine AllReadyH.cons rfl (fun K hK => ?_) AllReadyH.nil
              refine wp_append_own (.tmp 38) (.tmp 54) 23 rfl W14.heap.size 35 i0 (.slice none 0 0) 1 24 Tryz.underlying23 hi hz0 hz1 hz2 rfl (by decide) v i _ rfl (HOW1.out.kept (row := none) ⟨HBS.out.os, HBS.out.tape, HBS.out.output, HBS.out.size, fun b hb _ => HBS.out.block b hb⟩ (by
                cases hq : v.ownBlock with
                | none => exact .inl rfl
                | some x => exact .inr (by simp))) ⟨G, 0, none⟩ 1 1 [.slice a3 (bn + ln) c3] rfl rfl (fun j u hj => ?_) (fun u hu => ?_) (by unfold maxLen; omega) (by omega) (Nat.le_trans HSL.out.2.2.2 HBS.out.size) ?_
              · cases j with
                | zero => injection hj with hj; subst hj; rw [add_at, blk_cell HBG.out]; rfl
                | succ j => simp at hj
              · simp only [List.mem_singleton] at hu; subst hu; rfl
              intro v5 W104 ho5 hg5 _
              have HO5 := Lib.hid ho5
              have HG5 := Lib.hid hg5
              have HB5 := Lib.hid (show Below W14.heap.size W1 W104 from (HBS.out.mono HSL.out.2.2.2).grown hg5 (Nat.le_trans HSL.out.2.2.2 HBS.out.size) (fun b hb => HOB.out _ hb))
              have HSE := Lib.hid (show W104.cell? ⟨A, 0, none⟩ = some (.slice va n vc) ∧ W104.cell? ⟨A, 1, none⟩ = some (.slice ra m rc) ∧ W104.cell? ⟨Y, 1, none⟩ = some (.slice (some ⟨g2, o2, none⟩) kn rc4) ∧ W104.cell? ⟨g2, o2 + i, none⟩ = some (.slice a' bn c') from ⟨keptC HSA.out.1 HB5.out HSL.out.1, keptC HSA.out.2.1 HB5.out HSL.out.1, keptC HSA.out.2.2.1 HB5.out HSL.out.2.1, keptC HSA.out.2.2.2 HB5.out HSL.out.2.2.1⟩)
              have HX5 := Lib.hid (show Blk W104 X 25 #[.slice ua (bn + ln) uc, v] from blk_on HRD.out.all HB5.out HX14L.out)
              have HZ5 := Lib.hid (show W14.heap.size ≤ W104.heap.size from Nat.le_trans HSL.out.2.2.2 HB5.out.size)
              clear ho5 hg5 HBS HBG
              refine hK.out _ _ ?_ (fun hHeld => ?_)
              · (try dsimp only); first | exact HSF.out | exact HSE.out | exact ⟨keptC HSA.out.1 HBS.out (Nat.lt_of_lt_of_le HSL.out.1 HSL.out.2.2.2), keptC HSA.out.2.1 HBS.out (Nat.lt_of_lt_of_le HSL.out.1 HSL.out.2.2.2), keptC HSA.out.2.2.1 HBS.out (Nat.lt_of_lt_of_le HSL.out.2.1 HSL.out.2.2.2), keptC HSA.out.2.2.2 HBS.out (Nat.lt_of_lt_of_le HSL.out.2.2.1 HSL.out.2.2.2)⟩
              clear hK K
              (try simp only [Act.put, List.setIfInBounds_toArray])
              refine wpAnyH_take (i := 19) (oi := ⟨some 56, _, _, _, _, _⟩) (v := ?_) rfl (by kernel_rfl) (by kernel_rfl) (by kernel_rfl) (fun _ _ _ h => h) (Or.inl ⟨by kernel_rfl, ?_⟩) (by assumption) ?_
              rotate_left
              · (intro ww hSw; (try dsimp only at hSw); go_simp); (try with_reducible rfl)
              (try simp only [Act.put])
              refine wpAnyH_ready (rs := [20]) (by kernel_rfl) (by simp) ?_
              refine AllReadyH.cons rfl (fun K hK => ?_) AllReadyH.nil
              refine wp_one_abs 23 (.tmp 56) (.tmp 55) rfl X 1 v5 rfl rfl (own_cells HO5.out).1 (own_cells HO5.out).2 25 [.slice ua (bn + ln) uc, v] HX5.out (by kernel_rfl) (by simp) ?_
              intro W105 hX6 hg6
              have HSF := Lib.hid (show W105.cell? ⟨A, 0, none⟩ = some (.slice va n vc) ∧ W105.cell? ⟨A, 1, none⟩ = some (.slice ra m rc) ∧ W105.cell? ⟨Y, 1, none⟩ = some (.slice (some ⟨g2, o2, none⟩) kn rc4) ∧ W105.cell? ⟨g2, o2 + i, none⟩ = some (.slice a' bn c') from ⟨cellX HSE.out.1 hg6 (Nat.lt_of_lt_of_le HSL.out.1 HZ5.out) HNX.out.1, cellX HSE.out.2.1 hg6 (Nat.lt_of_lt_of_le HSL.out.1 HZ5.out) HNX.out.1, cellX HSE.out.2.2.1 hg6 (Nat.lt_of_lt_of_le HSL.out.2.1 HZ5.out) HNX.out.2.1, cellX HSE.out.2.2.2 hg6 (Nat.lt_of_lt_of_le HSL.out.2.2.1 HZ5.out) HNX.out.2.2⟩)
              have HR6 := Lib.hid (show LnsR X W14 (.slice ua (bn + ln) uc) v5 (GP.take (i + 1)) W105 from lns_next HX14L.out HRD.out HRC1.out HOW1.out HL1.out HB13.out HB34.out HT3.out HYLN.out HLINE.out HO5.out HG5.out hX6 hg6)
              clear hX6 hg6
              refine hK.out _ _ ?_ (fun hHeld => ?_)
              · (try dsimp only); first | exact HSF.out | exact HSE.out | exact ⟨keptC HSA.out.1 HBS.out (Nat.lt_of_lt_of_le HSL.out.1 HSL.out.2.2.2), keptC HSA.out.2.1 HBS.out (Nat.lt_of_lt_of_le HSL.out.1 HSL.out.2.2.2), keptC HSA.out.2.2.1 HBS.out (Nat.lt_of_lt_of_le HSL.out.2.1 HSL.out.2.2.2), keptC HSA.out.2.2.2 HBS.out (Nat.lt_of_lt_of_le HSL.out.2.2.1 HSL.out.2.2.2)⟩
              clear hK K
              (try simp only [Act.put])
              refine wpAnyH_done (by kernel_rfl) ?_ _
              go_wp2
              go_roundg g1'
              case measure => omega
              case rel => exact ⟨i + 1, v5, by go_num, by omega, HR6⟩
            · go_simp
              obtain ⟨W102, hWn⟩ : ∃ W102, W101.alloc (.cells #[.slice a3 (bn + ln) c3] 35) = W102 := ⟨_, rfl⟩
              obtain ⟨G, hG⟩ : ∃ G, W101.heap.size = G := ⟨_, rfl⟩
              have HBG := Lib.hid (show Blk W102 G 35 #[.slice a3 (bn + ln) c3] by rw [← hWn, ← hG]; exact blk_new _ _ _)
              have hbx : Below W101.heap.size W101 W102 := by rw [← hWn]; exact box_below _ _
              have HGEG := Lib.hid (show W101.heap.size = G from hG)
              rw [hWn, hG]
              clear hWn hG
              have HB34 := Lib.hid hbx
              have HB13 := HBS
              replace HBS := Lib.hid (fb2 HBS.out hbx (Nat.le_refl _))
              clear hbx
              refine hK.out _ _ ?_ (fun hHeld => ?_)
              · (try dsimp only); first | exact HSF.out | exact HSE.out | exact ⟨keptC HSA.out.1 HBS.out (Nat.lt_of_lt_of_le HSL.out.1 HSL.out.2.2.2), keptC HSA.out.2.1 HBS.out (Nat.lt_of_lt_of_le HSL.out.1 HSL.out.2.2.2), keptC HSA.out.2.2.1 HBS.out (Nat.lt_of_lt_of_le HSL.out.2.1 HSL.out.2.2.2), keptC HSA.out.2.2.2 HBS.out (Nat.lt_of_lt_of_le HSL.out.2.2.1 HSL.out.2.2.2)⟩
              clear hK K
              (try simp only [Act.put, List.setIfInBounds_toArray, List.set_cons_zero, List.set_cons_succ])
              refine wpAnyH_ready (rs := [1]) (by kernel_rfl) (by simp) ?_
              refine AllReadyH.cons rfl (fun K hK => ?_) AllReadyH.nil
              have hqv := keptC HQ1.out HBS.out HXL.out
              go_simp
              clear hqv
              obtain ⟨W103, rfl⟩ : ∃ W103, W103 = W102 := ⟨_, rfl⟩
              refine hK.out _ _ ?_ (fun hHeld => ?_)
              · (try dsimp only); first | exact HSF.out | exact HSE.out | exact ⟨keptC HSA.out.1 HBS.out (Nat.lt_of_lt_of_le HSL.out.1 HSL.out.2.2.2), keptC HSA.out.2.1 HBS.out (Nat.lt_of_lt_of_le HSL.out.1 HSL.out.2.2.2), keptC HSA.out.2.2.1 HBS.out (Nat.lt_of_lt_of_le HSL.out.2.1 HSL.out.2.2.2), keptC HSA.out.2.2.2 HBS.out (Nat.lt_of_lt_of_le HSL.out.2.2.1 HSL.out.2.2.2)⟩
              clear hK K
              (try simp only [Act.put, List.setIfInBounds_toArray, List.set_cons_zero, List.set_cons_succ])
              refine wpAnyH_ready (rs := [18]) (by kernel_rfl) (by simp) ?_
              refine AllReadyH.cons rfl (fun K hK => ?_) AllReadyH.nil
              refine wp_append_own (.tmp 38) (.tmp 54) 23 rfl W14.heap.size 35 i0 (.slice none 0 0) 1 24 Tryz.underlying23 hi hz0 hz1 hz2 rfl (by decide) v i _ rfl (HOW1.out.kept (row := none) ⟨HBS.out.os, HBS.out.tape, HBS.out.output, HBS.out.size, fun b hb _ => HBS.out.block b hb⟩ (by
                cases hq : v.ownBlock with
                | none => exact .inl rfl
                | some x => exact .inr (by simp))) ⟨G, 0, none⟩ 1 1 [.slice a3 (bn + ln) c3] rfl rfl (fun j u hj => ?_) (fun u hu => ?_) (by unfold maxLen; omega) (by omega) (Nat.le_trans HSL.out.2.2.2 HBS.out.size) ?_
              · cases j with
                | zero => injection hj with hj; subst hj; rw [add_at, blk_cell HBG.out]; rfl
                | succ j => simp at hj
              · simp only [List.mem_singleton] at hu; subst hu; rfl
              intro v5 W104 ho5 hg5 _
              have HO5 := Lib.hid ho5
              have HG5 := Lib.hid hg5
              have HB5 := Lib.hid (show Below W14.heap.size W1 W104 from (HBS.out.mono HSL.out.2.2.2).grown hg5 (Nat.le_trans HSL.out.2.2.2 HBS.out.size) (fun b hb => HOB.out _ hb))
              have HSE := Lib.hid (show W104.cell? ⟨A, 0, none⟩ = some (.slice va n vc) ∧ W104.cell? ⟨A, 1, none⟩ = some (.slice ra m rc) ∧ W104.cell? ⟨Y, 1, none⟩ = some (.slice (some ⟨g2, o2, none⟩) kn rc4) ∧ W104.cell? ⟨g2, o2 + i, none⟩ = some (.slice a' bn c') from ⟨keptC HSA.out.1 HB5.out HSL.out.1, keptC HSA.out.2.1 HB5.out HSL.out.1, keptC HSA.out.2.2.1 HB5.out HSL.out.2.1, keptC HSA.out.2.2.2 HB5.out HSL.out.2.2.1⟩)
              have HX5 := Lib.hid (show Blk W104 X 25 #[.slice ua (bn + ln) uc, v] from blk_on HRD.out.all HB5.out HX14L.out)
              have HZ5 := Lib.hid (show W14.heap.size ≤ W104.heap.size from Nat.le_trans HSL.out.2.2.2 HB5.out.size)
              clear ho5 hg5 HBS HBG
              refine hK.out _ _ ?_ (fun hHeld => ?_)
              · (try dsimp only); first | exact HSF.out | exact HSE.out | exact ⟨keptC HSA.out.1 HBS.out (Nat.lt_of_lt_of_le HSL.out.1 HSL.out.2.2.2), keptC HSA.out.2.1 HBS.out (Nat.lt_of_lt_of_le HSL.out.1 HSL.out.2.2.2), keptC HSA.out.2.2.1 HBS.out (Nat.lt_of_lt_of_le HSL.out.2.1 HSL.out.2.2.2), keptC HSA.out.2.2.2 HBS.out (Nat.lt_of_lt_of_le HSL.out.2.2.1 HSL.out.2.2.2)⟩
              clear hK K
              (try simp only [Act.put, List.setIfInBounds_toArray])
              refine wpAnyH_take (i := 19) (oi := ⟨some 56, _, _, _, _, _⟩) (v := ?_) rfl (by kernel_rfl) (by kernel_rfl) (by kernel_rfl) (fun _ _ _ h => h) (Or.inl ⟨by kernel_rfl, ?_⟩) (by assumption) ?_
              rotate_left
              · (intro ww hSw; (try dsimp only at hSw); go_simp); (try with_reducible rfl)
              (try simp only [Act.put])
              refine wpAnyH_ready (rs := [20]) (by kernel_rfl) (by simp) ?_
              refine AllReadyH.cons rfl (fun K hK => ?_) AllReadyH.nil
              refine wp_one_abs 23 (.tmp 56) (.tmp 55) rfl X 1 v5 rfl rfl (own_cells HO5.out).1 (own_cells HO5.out).2 25 [.slice ua (bn + ln) uc, v] HX5.out (by kernel_rfl) (by simp) ?_
              intro W105 hX6 hg6
              have HSF := Lib.hid (show W105.cell? ⟨A, 0, none⟩ = some (.slice va n vc) ∧ W105.cell? ⟨A, 1, none⟩ = some (.slice ra m rc) ∧ W105.cell? ⟨Y, 1, none⟩ = some (.slice (some ⟨g2, o2, none⟩) kn rc4) ∧ W105.cell? ⟨g2, o2 + i, none⟩ = some (.slice a' bn c') from ⟨cellX HSE.out.1 hg6 (Nat.lt_of_lt_of_le HSL.out.1 HZ5.out) HNX.out.1, cellX HSE.out.2.1 hg6 (Nat.lt_of_lt_of_le HSL.out.1 HZ5.out) HNX.out.1, cellX HSE.out.2.2.1 hg6 (Nat.lt_of_lt_of_le HSL.out.2.1 HZ5.out) HNX.out.2.1, cellX HSE.out.2.2.2 hg6 (Nat.lt_of_lt_of_le HSL.out.2.2.1 HZ5.out) HNX.out.2.2⟩)
              have HR6 := Lib.hid (show LnsR X W14 (.slice ua (bn + ln) uc) v5 (GP.take (i + 1)) W105 from lns_next HX14L.out HRD.out HRC1.out HOW1.out HL1.out HB13.out HB34.out HT3.out HYLN.out HLINE.out HO5.out HG5.out hX6 hg6)
              clear hX6 hg6
              refine hK.out _ _ ?_ (fun hHeld => ?_)
              · (try dsimp only); first | exact HSF.out | exact HSE.out | exact ⟨keptC HSA.out.1 HBS.out (Nat.lt_of_lt_of_le HSL.out.1 HSL.out.2.2.2), keptC HSA.out.2.1 HBS.out (Nat.lt_of_lt_of_le HSL.out.1 HSL.out.2.2.2), keptC HSA.out.2.2.1 HBS.out (Nat.lt_of_lt_of_le HSL.out.2.1 HSL.out.2.2.2), keptC HSA.out.2.2.2 HBS.out (Nat.lt_of_lt_of_le HSL.out.2.2.1 HSL.out.2.2.2)⟩
              clear hK K
              (try simp only [Act.put])
              refine wpAnyH_done (by kernel_rfl) ?_ _
              go_wp2
              go_roundg g1'
              case measure => omega
              case rel => exact ⟨i + 1, v5, by go_num, by omega, HR6⟩
      · have ii1 : ¬ (i : Int) < (kn : Int) := by omega
        have hE : GP.take i = GP := List.take_of_length_le (by have := HPL.out; omega)
        have t0 : W1.cell? ⟨X, 0, none⟩ = some (.slice ua (bn + ln) uc) := (blk_cell HRD.out.all 0).trans rfl
        have t1 : W1.cell? ⟨X, 1, none⟩ = some v := (blk_cell HRD.out.all 1).trans rfl
        obtain ⟨cs, hown, hrc⟩ := HRD.out.own
        rw [hE] at hown hrc
        rw [HPL.out] at hown
        have HOW := Lib.hid hown
        have HRC := Lib.hid hrc
        have HEa := Lib.hid (blk_grown HE14.out (by omega) HSME.out)
        have hv1 : (#[.slice ua (bn + ln) uc, v] : Array Value).all (fun x => x.oneCell') = true := by
          have h1 := (own_cells hown).2
          have h2 : (Value.slice ua (bn + ln) uc).oneCell' = true := rfl
          simp [h1, h2]
        clear hown hrc hE
        go_wp2_with (refine whole_abs 25 (.tmp 6) (.tmp 57) ⟨rfl, rfl⟩ (A + 1) #[.slice ua (bn + ln) uc, v] rfl rfl 25 #[.slice none 0 0, .slice none 0 0] HEa.out (by kernel_rfl) rfl hv1 ?_; intro w13 hA13 hG13)
        have hae := HAE.out
        have hb13 : Below w.heap.size w w13 := HBW1.out.grown hG13.out HBW1.out.size (fun q hq => by injection hq with hq; omega)
        have hne : ∀ b, b ≠ A + 1 → b < W1.heap.size → w13.heap[b]? = W1.heap[b]? := fun b hx hb => hG13.out.block b hb (fun e => by injection e with e; exact hx e)
        have hown13 : w13.ownsRow W14.heap.size 35 1 v kn cs := own_same HOW.out (fun g hg => hne g (by have := (HOW.out.lt g hg).1; omega) (HOW.out.lt g hg).2)
        have hrc13 : RowCK (fun b => W14.heap.size ≤ b) w13 cs GP := (HRC.out.on (w' := w13) ⟨hG13.out.size, fun b hb hk => hne b (by have := hk.1; omega) hb⟩).mono (fun b _ hk => hk.1)
        obtain ⟨a3, c3, hvf, hrow3⟩ := own_rows hown13 hrc13 HPL.out
        subst hvf
        have hU : TxtA w13 ua (bn + ln) uc (B ++ aggNames L) := (HU14.out.on (w' := w13) ⟨Nat.le_trans HSME.out.size hG13.out.size, fun b hb hk => (hne b (by have := hk.1; omega) (Nat.lt_of_lt_of_le hb HSME.out.size)).trans (HSME.out.block b hb (fun e => by injection e with e; have := hk.2; omega))⟩).a
        have q5 : w13.cell? ⟨A + 1, 0, none⟩ = some (.slice ua (bn + ln) uc) := (blk_cell hA13.out 0).trans rfl
        have q6 : w13.cell? ⟨A + 1, 1, none⟩ = some (.slice a3 kn c3) := (blk_cell hA13.out 1).trans rfl
        refine bodyPost_ret (v := .agg #[.slice ua (bn + ln) uc, .slice a3 kn c3]) (by simp [results, Tryz.results16, q5, q6, go_sem]) rfl ⟨_, rfl, ⟨ua, _, uc, a3, kn, c3, rfl, hU, by rw [HGPE.out]; exact hrow3⟩, hb13⟩

end Go.Proofs.YtdnfaoanaehjhaaGreatDoor
