/- Names in order, with one more: by the document's own answer. (Written by gen/mkmore7.py.) -/
import Derived.Test.YtiliobfgmelncaaGreatScopePlains
import Derived.Test.YtiliobfgmelncaaGreatRefScopeSmall
import Derived.Test.YtiliobfgmelncaaGreatRefVars2
namespace Go.Proofs.YtiliobfgmelncaaGreat
open Go.RowKit

/- names that a call hands back: they lie in what is there -/
def NamesT (w : World) (M : List (List UInt8)) (e : Ending) (w' : World) : Prop := ∃ a c, e = .returned (.slice a M.length c) ∧ TxtA w' a M.length c M ∧ Below w.heap.size w w'
theorem txtA_own {w : World} {B : Nat} {v : Value} {M : List (List UInt8)} (h : w.ownsRow B 9 1 v M.length (textCells M)) : ∃ a c, v = .slice a M.length c ∧ TxtA w a M.length c M := by
  rcases reads_of h with ⟨rfl, h0⟩ | ⟨g, cap, rfl, hg, hc, hm, hr⟩
  · exact ⟨none, 0, by rw [h0], rfl, by rw [h0]; exact Nat.le_refl _, Nat.zero_le _, fun h => absurd h (by omega)⟩
  · exact ⟨_, _, rfl, rfl, hc, hm, fun _ => ⟨g, 0, rfl, hg, fun j hj => by rw [Nat.zero_add]; exact hr j _ (by simp [textCells, hj])⟩⟩
theorem own_start (w : World) : (w.alloc (.cells #[] 9)).ownsRow w.heap.size 9 1 (.slice (some ⟨w.heap.size, 0, none⟩) 0 0) ([] : List (List UInt8)).length (textCells []) := World.ownsRow_made (base := w.heap.size) (e := 9) (size := 1) w #[] 0 (Nat.le_refl _) (by unfold maxLen; omega) rfl
theorem textCells_two (O : List (List UInt8)) (x y : List UInt8) : textCells (O ++ [x] ++ [y]) = textCells O ++ [.string (bs x)] ++ [.string (bs y)] := by rw [textCells_append, textCells_append]; rfl

set_option maxRecDepth 100000 in
set_option maxHeartbeats 8000000 in
theorem rmore_calls (L : List (List UInt8)) (x : List UInt8) (a : Option Addr) (n c : Nat) (w : World) (hv : TxtA w a n c L) (hl : n ≤ 4294967296) :
    Calls Tryz.prog 60 #[.slice a n c, .string (bs x)] w (NamesT w (moreO L x)) := by
  obtain ⟨i0, hi, hz0, hz1, hz2⟩ := info_parts info_string
  have HV := Lib.hid hv
  have HL := Lib.hid hv.len
  have HIN := Lib.hid (InA_calls L x a n c w hv)
  have hcp := hv.cap
  have hms := hv.most
  unfold maxLen at hms
  clear hv
  by_cases hin : x ∈ L
  · have HM := Lib.hid (show moreO L x = L from if_pos hin)
    rw [decide_eq_true hin] at HIN
    clear hin
    go_enter Tryz.func60, Tryz.ntmps60
    go_wp2_with fail
    refine HIN.out.mono ?_
    rintro e wn ⟨rfl, hwn⟩
    subst hwn
    go_wp2
    refine bodyPost_ret (v := .slice a n c) (by simp [results, Tryz.results60, go_sem]) rfl ⟨a, c, by rw [HM.out, HL.out], by rw [HM.out, HL.out]; exact HV.out, Below.refl _ _⟩
  · have HM := Lib.hid (show moreO L x = insL x L from if_neg hin)
    rw [decide_eq_false hin] at HIN
    clear hin
    go_enter Tryz.func60, Tryz.ntmps60
    go_wp2_with fail
    refine HIN.out.mono ?_
    rintro e wn ⟨rfl, hwn⟩
    subst hwn
    go_wp2
    go_loopg [5, 6, 7] n (fun g v d i wr => ∃ (k : Nat) (D : Bool) (O : List (List UInt8)), i = .int .i64 k ∧ d = .bool D ∧ k + g = n ∧ Hid (InsR L x k D O) ∧ Hid (wr.ownsRow wn.heap.size 9 1 v O.length (textCells O)) ∧ Hid (Below wn.heap.size wn wr))
    case atStart => exact ⟨0, false, [], rfl, rfl, by omega, Lib.hid (ins_start L x), Lib.hid (own_start _), Lib.hid (box_below _ _)⟩
    case round =>
      obtain ⟨W1, rfl⟩ : ∃ W1, W1 = wr := ⟨_, rfl⟩
      obtain ⟨k, D, O, rfl, rfl, hkg, HR, HO, HB⟩ := hrel
      have hol := HR.out.2
      have hD1 : (bif D then 1 else 0) ≤ 1 := by cases D <;> decide
      have hzB := HB.out.size
      by_cases hk : k < n
      · obtain ⟨gg, rfl⟩ : ∃ gg, gk = gg + 1 := ⟨gk - 1, by omega⟩
        have hkL : k < L.length := by rw [HL.out]; exact hk
        obtain ⟨g, o, ha, hgw, hcells⟩ := HV.out.cells (by omega)
        subst ha
        have hgW : g < W1.heap.size := Nat.lt_of_lt_of_le hgw HB.out.size
        have HC := Lib.hid (fun W (hb : Below wn.heap.size wn W) => (hb.cell (p := ⟨g, o + k, none⟩) hgw).trans (hcells k hkL))
        have c0 := HC.out W1 HB.out
        have k0 : (0 : Int) ≤ (k : Int) := by omega
        have k1 : (k : Int) < (n : Int) := by omega
        clear hcells
        cases D with
        | true =>
          have HR2 := Lib.hid (ins_next HR.out hkL)
          clear HR
          generalize L[k] = y at c0 HC HR2
          have HOL := Lib.hid (textCells_append O [y])
          go_wp2_with (at_builtin; go_must (refine wpList_append_own _ rfl (.tmp 33) (.tmp 38) 23 rfl wn.heap.size 9 i0 (.string ⟨#[]⟩) 1 16 Tryz.underlying23 hi hz0 hz1 hz2 rfl (by decide) _ _ _ rfl ((HO.out).alloc _) ⟨W1.heap.size, 0, none⟩ 1 1 [.string (bs y)] rfl rfl (fun j u hu => by (cases j with | zero => (simp at hu; subst hu; simp [go_sem]) | succ j => simp at hu)) (by intro u hu; simp at hu; subst hu; rfl) (by unfold maxLen; omega) (by omega) (by simp; omega) ?_; intro v3 w3 hownw3 hgroww3 hnilw3; clear hnilw3; have HOw3 := Lib.hid hownw3; clear hownw3; have HGw3 := Lib.hid hgroww3; clear hgroww3))
          have HBw3 := Lib.hid ((HB.out.alloc (by have := HB.out.size; omega) _).grown HGw3.out (by have := HB.out.size; simp; omega) (fun k hk => (HO.out.lt k hk).1))
          go_roundg gg
          case measure => omega
          case rel => exact ⟨k + 1, true, O ++ [y], by go_num, rfl, by omega, HR2, Lib.hid (by rw [HOL.out, List.length_append]; exact HOw3.out), HBw3⟩
        | false =>
          have HPUT := Lib.hid (fun h => ins_put HR.out hkL h)
          have HKEEP := Lib.hid (fun h => ins_keep HR.out hkL h)
          clear HR
          generalize L[k] = y at c0 HC HPUT HKEEP
          obtain ⟨b, hb⟩ : ∃ b, Op.bytesLess x y = b := ⟨_, rfl⟩
          have glt : Op.bytesLess (bs x).toList (bs y).toList = b := by rw [bs_toList, bs_toList]; exact hb
          rw [hb] at HPUT HKEEP
          clear hb
          cases b with
          | true =>
            have HR2 := Lib.hid (HPUT.out rfl)
            clear HPUT HKEEP
            have HOL := Lib.hid (textCells_two O x y)
            go_wp2_with (first | (at_builtin; (refine wpList_append_own _ rfl (.tmp 29) (.tmp 31) 23 rfl wn.heap.size 9 i0 (.string ⟨#[]⟩) 1 16 Tryz.underlying23 hi hz0 hz1 hz2 rfl (by decide) _ _ _ rfl ((HO.out).alloc _) ⟨W1.heap.size, 0, none⟩ 1 1 [.string (bs x)] rfl rfl (fun j u hu => by (cases j with | zero => (simp at hu; subst hu; simp [go_sem]) | succ j => simp at hu)) (by intro u hu; simp at hu; subst hu; rfl) (by unfold maxLen; omega) (by omega) (by simp; omega) ?_; intro v3 w3 hownw3 hgroww3 hnilw3; clear hnilw3; have HOw3 := Lib.hid hownw3; clear hownw3; have HGw3 := Lib.hid hgroww3; clear hgroww3; have HBw3 := Lib.hid ((HB.out.alloc (by have := HB.out.size; omega) _).grown HGw3.out (by have := HB.out.size; simp; omega) (fun k hk => (HO.out.lt k hk).1)); have hz3 := HBw3.out.size; have d0 := HC.out w3 HBw3.out; have hgW3 : g < w3.heap.size := Nat.lt_of_lt_of_le hgw HBw3.out.size)) | (at_builtin; go_must (refine wpList_append_own _ rfl (.tmp 33) (.tmp 38) 23 rfl wn.heap.size 9 i0 (.string ⟨#[]⟩) 1 16 Tryz.underlying23 hi hz0 hz1 hz2 rfl (by decide) _ _ _ rfl ((HOw3.out).alloc _) ⟨w3.heap.size, 0, none⟩ 1 1 [.string (bs y)] rfl rfl (fun j u hu => by (cases j with | zero => (simp at hu; subst hu; simp [go_sem]) | succ j => simp at hu)) (by intro u hu; simp at hu; subst hu; rfl) (by unfold maxLen; omega) (by omega) (by simp; omega) ?_; intro v4 w4 hownw4 hgroww4 hnilw4; clear hnilw4; have HOw4 := Lib.hid hownw4; clear hownw4; have HGw4 := Lib.hid hgroww4; clear hgroww4)))
            have HBw4 := Lib.hid ((HBw3.out.alloc (by have := HBw3.out.size; omega) _).grown HGw4.out (by have := HBw3.out.size; simp; omega) (fun k hk => (HOw3.out.lt k hk).1))
            go_roundg gg
            case measure => omega
            case rel => exact ⟨k + 1, true, O ++ [x] ++ [y], by go_num, rfl, by omega, HR2, Lib.hid (by rw [HOL.out, List.length_append, List.length_append]; exact HOw4.out), HBw4⟩
          | false =>
            have HR2 := Lib.hid (HKEEP.out rfl)
            clear HPUT HKEEP
            have HOL := Lib.hid (textCells_append O [y])
            go_wp2_with (at_builtin; go_must (refine wpList_append_own _ rfl (.tmp 33) (.tmp 38) 23 rfl wn.heap.size 9 i0 (.string ⟨#[]⟩) 1 16 Tryz.underlying23 hi hz0 hz1 hz2 rfl (by decide) _ _ _ rfl ((HO.out).alloc _) ⟨W1.heap.size, 0, none⟩ 1 1 [.string (bs y)] rfl rfl (fun j u hu => by (cases j with | zero => (simp at hu; subst hu; simp [go_sem]) | succ j => simp at hu)) (by intro u hu; simp at hu; subst hu; rfl) (by unfold maxLen; omega) (by omega) (by simp; omega) ?_; intro v3 w3 hownw3 hgroww3 hnilw3; clear hnilw3; have HOw3 := Lib.hid hownw3; clear hownw3; have HGw3 := Lib.hid hgroww3; clear hgroww3))
            have HBw3 := Lib.hid ((HB.out.alloc (by have := HB.out.size; omega) _).grown HGw3.out (by have := HB.out.size; simp; omega) (fun k hk => (HO.out.lt k hk).1))
            go_roundg gg
            case measure => omega
            case rel => exact ⟨k + 1, false, O ++ [y], by go_num, rfl, by omega, HR2, Lib.hid (by rw [HOL.out, List.length_append]; exact HOw3.out), HBw3⟩
      · have k1 : ¬ (k : Int) < (n : Int) := by omega
        cases D with
        | true =>
          have HE := Lib.hid (ins_end_yes HR.out (by rw [HL.out]; omega))
          go_wp2
          obtain ⟨a', c', hv', ht'⟩ := txtA_own HO.out
          subst hv'
          refine bodyPost_ret (v := .slice a' O.length c') (by simp [results, Tryz.results60, go_sem]) rfl ⟨a', c', by rw [HM.out, ← HE.out], by rw [HM.out, ← HE.out]; exact ht', HB.out⟩
        | false =>
          have HE := Lib.hid (ins_end_no HR.out (by rw [HL.out]; omega))
          have HOL := Lib.hid (textCells_append O [x])
          go_wp2_with (at_builtin; go_must (refine wpList_append_own _ rfl (.tmp 42) (.tmp 44) 23 rfl wn.heap.size 9 i0 (.string ⟨#[]⟩) 1 16 Tryz.underlying23 hi hz0 hz1 hz2 rfl (by decide) _ _ _ rfl ((HO.out).alloc _) ⟨W1.heap.size, 0, none⟩ 1 1 [.string (bs x)] rfl rfl (fun j u hu => by (cases j with | zero => (simp at hu; subst hu; simp [go_sem]) | succ j => simp at hu)) (by intro u hu; simp at hu; subst hu; rfl) (by unfold maxLen; omega) (by omega) (by simp; omega) ?_; intro v3 w3 hownw3 hgroww3 hnilw3; clear hnilw3; have HOw3 := Lib.hid hownw3; clear hownw3; have HGw3 := Lib.hid hgroww3; clear hgroww3))
          have HBw3 := Lib.hid ((HB.out.alloc (by have := HB.out.size; omega) _).grown HGw3.out (by have := HB.out.size; simp; omega) (fun k hk => (HO.out.lt k hk).1))
          have HOw5 := Lib.hid (show w3.ownsRow wn.heap.size 9 1 v3 (O ++ [x]).length (textCells (O ++ [x])) by rw [HOL.out, List.length_append]; exact HOw3.out)
          obtain ⟨a', c', hv', ht'⟩ := txtA_own HOw5.out
          subst hv'
          refine bodyPost_ret (v := .slice a' (O ++ [x]).length c') (by simp [results, Tryz.results60, go_sem]) rfl ⟨a', c', by rw [HM.out, ← HE.out], by rw [HM.out, ← HE.out]; exact ht', HBw3.out⟩

end Go.Proofs.YtiliobfgmelncaaGreat
