/- Names in order, of both, and those that are in both: by the document's own answer. (Written by gen/mkunion7.py.) -/
import Derived.Test.YtiliobfgmelncaaGreatRefMore
namespace Go.Proofs.YtiliobfgmelncaaGreat
open Go.RowKit

theorem unionO_snoc (L M : List (List UInt8)) (x : List UInt8) : unionO L (M ++ [x]) = moreO (unionO L M) x := by
  induction M generalizing L with
  | nil => rfl
  | cons y r ih => rw [List.cons_append, unionO, ih, unionO]
theorem unionO_next {L M : List (List UInt8)} {k : Nat} (hk : k < M.length) : unionO L (M.take (k + 1)) = moreO (unionO L (M.take k)) M[k] := by rw [List.take_succ_eq_append_getElem hk, unionO_snoc]
theorem unionO_take (L M : List (List UInt8)) (k : Nat) : (unionO L (M.take k)).length ≤ L.length + M.length := by
  have h1 := unionO_length L (M.take k)
  have h2 : (M.take k).length ≤ M.length := by rw [List.length_take]; omega
  omega

set_option maxRecDepth 100000 in
set_option maxHeartbeats 4000000 in
theorem runion_calls (L M : List (List UInt8)) (a b : Option Addr) (n c m d : Nat) (w : World) (hv : TxtA w a n c L) (hu : TxtA w b m d M) (hl : n + m ≤ 4294967296) :
    Calls Tryz.prog 63 #[.slice a n c, .slice b m d] w (NamesT w (unionO L M)) := by
  have HV := Lib.hid hv
  have HU := Lib.hid hu
  have HL := Lib.hid hv.len
  have HM := Lib.hid hu.len
  have hcp := hu.cap
  have hms := hu.most
  unfold maxLen at hms
  clear hv hu
  go_enter Tryz.func63, Tryz.ntmps63
  go_wp2
  go_loopg [0, 5] m (fun g v i wr => ∃ (k : Nat) (a' : Option Addr) (n' c' : Nat), i = .int .i64 k ∧ v = .slice a' n' c' ∧ k + g = m ∧ n' ≤ 4294967296 ∧ Hid (TxtA wr a' n' c' (unionO L (M.take k))) ∧ Hid (Below w.heap.size w wr))
  case atStart => exact ⟨0, a, n, c, rfl, rfl, by omega, by omega, Lib.hid (by rw [List.take_zero]; exact HV.out), Lib.hid (Below.refl _ _)⟩
  case round =>
    obtain ⟨W1, rfl⟩ : ∃ W1, W1 = wr := ⟨_, rfl⟩
    obtain ⟨k, a', n', c', rfl, rfl, hkg, hn', HT, HB⟩ := hrel
    by_cases hk : k < m
    · obtain ⟨gg, rfl⟩ : ∃ gg, gk = gg + 1 := ⟨gk - 1, by omega⟩
      have hkL : k < M.length := by rw [HM.out]; exact hk
      obtain ⟨g, o, ha, hgw, hcells⟩ := HU.out.cells (by omega)
      subst ha
      have hgW : g < W1.heap.size := Nat.lt_of_lt_of_le hgw HB.out.size
      have c0 := (HB.out.cell (p := ⟨g, o + k, none⟩) hgw).trans (hcells k hkL)
      have HNX := Lib.hid (unionO_next (L := L) hkL)
      have HLN := Lib.hid (unionO_take L M (k + 1))
      clear hcells
      generalize M[k] = y at c0 HNX
      have HMR := Lib.hid (rmore_calls _ y a' n' c' W1 HT.out hn')
      rw [← HNX.out] at HMR
      have k0 : (0 : Int) ≤ (k : Int) := by omega
      have k1 : (k : Int) < (m : Int) := by omega
      have HSZ := Lib.hid (show (unionO L (M.take (k + 1))).length ≤ 4294967296 by have h1 := HLN.out; have h2 := HL.out; have h3 := HM.out; omega)
      go_wp2_with fail
      refine HMR.out.mono ?_
      rintro e w2 ⟨a2, c2, rfl, ht2, hb2⟩
      have HT2 := Lib.hid ht2
      have HB2 := Lib.hid (HB.out.trans (hb2.mono HB.out.size))
      clear ht2 hb2
      obtain ⟨n2, hn2⟩ : ∃ n2, (unionO L (M.take (k + 1))).length = n2 := ⟨_, rfl⟩
      rw [hn2] at HT2 HSZ ⊢
      clear hn2
      go_wp2
      go_roundg gg
      case measure => omega
      case rel => exact ⟨k + 1, a2, n2, c2, by go_num, rfl, by omega, HSZ.out, HT2, HB2⟩
    · have hkm : k = m := by omega
      have k1 : ¬ (k : Int) < (m : Int) := by omega
      have HE := Lib.hid (show M.take k = M from List.take_of_length_le (by rw [HM.out]; omega))
      rw [HE.out] at HT
      have HLE := Lib.hid HT.out.len
      clear hkm
      go_wp2
      refine bodyPost_ret (v := .slice a' n' c') (by simp [results, Tryz.results63, go_sem]) rfl ⟨a', c', by rw [HLE.out], by rw [HLE.out]; exact HT.out, HB.out⟩

theorem meetO_next_yes {L M : List (List UInt8)} {k : Nat} (hk : k < L.length) (h : L[k] ∈ M) : meetO (L.take (k + 1)) M = meetO (L.take k) M ++ [L[k]] := by
  unfold meetO
  rw [List.take_succ_eq_append_getElem hk, List.filter_append]
  simp [h]
theorem meetO_next_no {L M : List (List UInt8)} {k : Nat} (hk : k < L.length) (h : ¬ L[k] ∈ M) : meetO (L.take (k + 1)) M = meetO (L.take k) M := by
  unfold meetO
  rw [List.take_succ_eq_append_getElem hk, List.filter_append]
  simp [h]
theorem meetO_length (L M : List (List UInt8)) : (meetO L M).length ≤ L.length := List.length_filter_le _ _
theorem meetO_take (L M : List (List UInt8)) (k : Nat) : (meetO (L.take k) M).length ≤ L.length := by
  have h1 := meetO_length (L.take k) M
  rw [List.length_take] at h1
  omega

set_option maxRecDepth 100000 in
set_option maxHeartbeats 4000000 in
theorem rmeet_calls (L M : List (List UInt8)) (a b : Option Addr) (n c m d : Nat) (wn : World) (hv : TxtA wn a n c L) (hu : TxtA wn b m d M) (hl : n ≤ 4294967296) :
    Calls Tryz.prog 62 #[.slice a n c, .slice b m d] wn (NamesT wn (meetO L M)) := by
  obtain ⟨i0, hi, hz0, hz1, hz2⟩ := info_parts info_string
  have HV := Lib.hid hv
  have HU := Lib.hid hu
  have HL := Lib.hid hv.len
  have hcp := hv.cap
  have hms := hv.most
  unfold maxLen at hms
  clear hv hu
  go_enter Tryz.func62, Tryz.ntmps62
  go_wp2
  go_loopg [5, 6] n (fun g v i wr => ∃ (k : Nat) (O : List (List UInt8)), i = .int .i64 k ∧ k + g = n ∧ O.length ≤ n ∧ Hid (meetO (L.take k) M = O) ∧ Hid (wr.ownsRow wn.heap.size 9 1 v O.length (textCells O)) ∧ Hid (Below wn.heap.size wn wr))
  case atStart => exact ⟨0, [], rfl, by omega, Nat.zero_le _, Lib.hid rfl, Lib.hid (own_start _), Lib.hid (box_below _ _)⟩
  case round =>
    obtain ⟨W1, rfl⟩ : ∃ W1, W1 = wr := ⟨_, rfl⟩
    obtain ⟨k, O, rfl, hkg, hol, HR, HO, HB⟩ := hrel
    have hzB := HB.out.size
    by_cases hk : k < n
    · obtain ⟨gg, rfl⟩ : ∃ gg, gk = gg + 1 := ⟨gk - 1, by omega⟩
      have hkL : k < L.length := by rw [HL.out]; exact hk
      obtain ⟨g, o, ha, hgw, hcells⟩ := HV.out.cells (by omega)
      subst ha
      have hgW : g < W1.heap.size := Nat.lt_of_lt_of_le hgw HB.out.size
      have c0 := (HB.out.cell (p := ⟨g, o + k, none⟩) hgw).trans (hcells k hkL)
      have k0 : (0 : Int) ≤ (k : Int) := by omega
      have k1 : (k : Int) < (n : Int) := by omega
      have HYES := Lib.hid (fun h => meetO_next_yes (M := M) hkL h)
      have HNO := Lib.hid (fun h => meetO_next_no (M := M) hkL h)
      have HTL := Lib.hid (meetO_take L M (k + 1))
      clear hcells
      generalize L[k] = y at c0 HYES HNO
      have HIN := Lib.hid (InA_calls M y b m d W1 (HU.out.on HB.out))
      rw [HR.out] at HYES HNO
      by_cases hin : y ∈ M
      · rw [decide_eq_true hin] at HIN
        have HR2 := Lib.hid (HYES.out hin)
        have hol2 : O.length + 1 ≤ n := by have h1 := HTL.out; rw [HR2.out, List.length_append, HL.out] at h1; simpa using h1
        clear HYES HNO hin
        have HOL := Lib.hid (textCells_append O [y])
        go_wp2_with fail
        refine HIN.out.mono ?_
        rintro e w2 ⟨rfl, hw2⟩
        subst hw2
        go_wp2_with (at_builtin; go_must (refine wpList_append_own _ rfl (.tmp 20) (.tmp 25) 23 rfl wn.heap.size 9 i0 (.string ⟨#[]⟩) 1 16 Tryz.underlying23 hi hz0 hz1 hz2 rfl (by decide) _ _ _ rfl ((HO.out).alloc _) ⟨w2.heap.size, 0, none⟩ 1 1 [.string (bs y)] rfl rfl (fun j u hu => by (cases j with | zero => (simp at hu; subst hu; simp [go_sem]) | succ j => simp at hu)) (by intro u hu; simp at hu; subst hu; rfl) (by unfold maxLen; omega) (by omega) (by simp; omega) ?_; intro v3 w3 hownw3 hgroww3 hnilw3; clear hnilw3; have HOw3 := Lib.hid hownw3; clear hownw3; have HGw3 := Lib.hid hgroww3; clear hgroww3))
        have HBw3 := Lib.hid ((HB.out.alloc (by have := HB.out.size; omega) _).grown HGw3.out (by have := HB.out.size; simp; omega) (fun k hk => (HO.out.lt k hk).1))
        go_roundg gg
        case measure => omega
        case rel => exact ⟨k + 1, O ++ [y], by go_num, by omega, by rw [List.length_append]; exact hol2, HR2, Lib.hid (by rw [HOL.out, List.length_append]; exact HOw3.out), HBw3⟩
      · rw [decide_eq_false hin] at HIN
        have HR2 := Lib.hid (HNO.out hin)
        clear HYES HNO hin
        go_wp2_with fail
        refine HIN.out.mono ?_
        rintro e w2 ⟨rfl, hw2⟩
        subst hw2
        go_wp2
        go_roundg gg
        case measure => omega
        case rel => exact ⟨k + 1, O, by go_num, by omega, hol, HR2, HO, HB⟩
    · have k1 : ¬ (k : Int) < (n : Int) := by omega
      have HE := Lib.hid (show meetO L M = O by rw [← HR.out, List.take_of_length_le (by rw [HL.out]; omega)])
      go_wp2
      obtain ⟨a', c', hv', ht'⟩ := txtA_own HO.out
      subst hv'
      refine bodyPost_ret (v := .slice a' O.length c') (by simp [results, Tryz.results62, go_sem]) rfl ⟨a', c', by rw [HE.out], by rw [HE.out]; exact ht', HB.out⟩

end Go.Proofs.YtiliobfgmelncaaGreat
