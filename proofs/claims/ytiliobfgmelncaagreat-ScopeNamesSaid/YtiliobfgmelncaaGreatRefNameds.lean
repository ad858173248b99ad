/- The variables of an operation's result: by the document's own answer, which calls itself. Is a service among those that another one needs: by the document's own answer, of shaped operations. -/
import Derived.Test.YtiliobfgmelncaaGreatScopeNamesAll
import Derived.Test.YtiliobfgmelncaaGreatScopePlains
import Derived.Test.YtiliobfgmelncaaGreatRefScopeShape
namespace Go.Proofs.YtiliobfgmelncaaGreat
open Go.RowKit

theorem right_small {o : OpL} (h : rightO o = true) : o.T.length ≤ 32 ∧ o.V.length ≤ 32 ∧ ∀ r ∈ o.R, r.length = o.V.length := by
  unfold rightO at h
  split at h
  · simp only [Bool.and_eq_true, patsB, decide_eq_true_eq, List.isEmpty_iff] at h
    obtain ⟨⟨⟨⟨⟨⟨_, h1⟩, h2⟩, h3⟩, _⟩, _⟩, _⟩ := h
    rw [h2, h3]; exact ⟨h1, by simp, by simp⟩
  · split at h
    · simp only [Bool.and_eq_true, tableB, rowsB, decide_eq_true_eq, List.isEmpty_iff, List.all_eq_true] at h
      obtain ⟨⟨⟨⟨h1, ⟨⟨⟨h2, _⟩, _⟩, h3⟩⟩, _⟩, _⟩, _⟩ := h
      rw [h1]; exact ⟨by simp, h2, fun r hr => (h3 r hr).1⟩
    · have key : o.T = [] ∧ o.V = [] ∧ o.R = [] := by
        split at h
        · simp only [Bool.and_eq_true, List.isEmpty_iff] at h; exact ⟨h.1.1.1.1.1, h.1.1.1.1.2, h.1.1.1.2⟩
        · split at h
          · simp only [Bool.and_eq_true, List.isEmpty_iff] at h; exact ⟨h.1.1.1.1.1, h.1.1.1.1.2, h.1.1.1.2⟩
          · split at h
            · simp only [Bool.and_eq_true, List.isEmpty_iff] at h; exact ⟨h.1.1.1.1.1, h.1.1.1.1.2, h.1.1.1.2⟩
            · split at h
              · simp only [Bool.and_eq_true, List.isEmpty_iff] at h; exact ⟨h.1.1.1.1.1, h.1.1.1.1.2, h.1.1.1.2⟩
              · split at h
                · simp only [Bool.and_eq_true, List.isEmpty_iff] at h; exact ⟨h.1.1.1.1, h.1.1.1.2, h.1.1.2⟩
                · cases h
      obtain ⟨h1, h2, h3⟩ := key
      rw [h1, h2, h3]; exact ⟨by simp, by simp, by simp⟩

theorem need_one {k : Int} (h : needO k = 1) : k = 7 ∨ k = 8 ∨ k = 9 := by
  unfold needO at h
  split at h
  · omega
  · split at h
    · assumption
    · split at h <;> omega
theorem need_two {k : Int} (h : needO k = 2) : k = 3 ∨ k = 4 ∨ k = 5 ∨ k = 6 := by
  unfold needO at h
  split at h
  · omega
  · split at h
    · omega
    · split at h
      · assumption
      · omega
theorem ops_small {C : List OpL} (h : shB C = true) : ∀ o ∈ C, o.T.length ≤ 32 ∧ o.V.length ≤ 32 := fun o ho => by
  obtain ⟨k, hk, rfl⟩ := List.mem_iff_getElem.1 ho
  have := right_small ((shB_hts h).step k hk).1
  exact ⟨this.1, this.2.1⟩
theorem names_few {C : List OpL} (h : shB C = true) (hl : C.length ≤ 128) (cert : Bool) (f i : Nat) (hf : i < f) (hi : i < C.length) : (namesF C cert f i).length ≤ 20000 := by
  have := namesF_length h cert (ops_small h) f i hf hi
  omega

set_option maxRecDepth 100000 in
set_option maxHeartbeats 16000000 in
theorem rNames_calls (C : List OpL) (hs : shB C = true) (cert : Bool) (a : Option Addr) (n c : Nat) (hl : n ≤ 128) : ∀ (f i : Nat) (w : World), OpsA w a n c C → i < f → i < n →
    Calls Tryz.prog 38 #[.slice a n c, .int .i64 i, .bool cert] w (NamesT w (namesF C cert f i))
  | 0, i, w, _, hf, _ => absurd hf (Nat.not_lt_zero _)
  | f + 1, i, w, hv, hf, hi => by
    have HV := Lib.hid hv
    have HIH := Lib.hid (fun i' W h h1 h2 => rNames_calls C hs cert a n c hl f i' W h h1 h2)
    have HS := Lib.hid hs
    have hiL : i < C.length := by rw [hv.len]; exact hi
    obtain ⟨g, o, ha, hgw, hcells⟩ := hv.cells (by omega)
    subst ha
    obtain ⟨A, h7, hin⟩ := hcells i hiL
    obtain ⟨hg, hn2, _⟩ := (shB_hts hs).step i hiL
    obtain ⟨ht, hvl, hrl⟩ := right_small hg
    clear hv hs hcells
    have i0 : (0 : Int) ≤ (i : Int) := by omega
    have i1 : (i : Int) < (n : Int) := by omega
    generalize hp : C[i] = p at h7 hin hg hn2 ht hvl hrl
    obtain ⟨pk, T, V, R, F, m, s⟩ := p
    obtain ⟨ta, tn, tc, va, vn, vc, ra, rn, rc, fa, fn, fc⟩ := A
    simp only [Op7] at h7
    obtain ⟨c0, c1, c2, c3, c4, c5, c6⟩ := h7
    have HND := Lib.hid (fun W => rONeeds_calls ⟨pk, T, V, R, F, m, s⟩ ⟨ta, tn, tc, va, vn, vc, ra, rn, rc, fa, fn, fc⟩ W)
    have HLF := Lib.hid (fun W h => rleaf_calls ⟨pk, T, V, R, F, m, s⟩ ⟨ta, tn, tc, va, vn, vc, ra, rn, rc, fa, fn, fc⟩ cert W h ht hvl hrl)
    have HB0 := Lib.hid (OpBox.new w ⟨pk, T, V, R, F, m, s⟩ ⟨ta, tn, tc, va, vn, vc, ra, rn, rc, fa, fn, fc⟩ 29)
    have HX := Lib.hid (show ∀ W, OpBox w ⟨pk, T, V, R, F, m, s⟩ ⟨ta, tn, tc, va, vn, vc, ra, rn, rc, fa, fn, fc⟩ W → Op7 W w.heap.size 0 ⟨pk, T, V, R, F, m, s⟩ ⟨ta, tn, tc, va, vn, vc, ra, rn, rc, fa, fn, fc⟩ from fun W h => h.1)
    simp only [OpL.v] at HND HLF
    simp only [Op7] at HX
    have hnn := needO_right hg
    dsimp only at HND HLF HX hnn
    have HIN := Lib.hid hin
    have hdl := ndO_le ⟨pk, T, V, R, F, m, s⟩
    have HN : Hid (namesF C cert (f + 1) i = if ndO ⟨pk, T, V, R, F, m, s⟩ = 0 then leafO ⟨pk, T, V, R, F, m, s⟩ cert else if ndO ⟨pk, T, V, R, F, m, s⟩ = 1 then (if (cert && s) = true then [] else if pk = 8 ∧ cert = false then moreO (namesF C cert f (i - 1)) m else namesF C cert f (i - 1)) else if pk = 6 ∨ (pk = 5 ∧ cert = true) then namesF C cert f (fromC C (i - 1) - 1) else if pk = 4 ∧ cert = true then meetO (namesF C cert f (fromC C (i - 1) - 1)) (namesF C cert f (i - 1)) else unionO (namesF C cert f (fromC C (i - 1) - 1)) (namesF C cert f (i - 1))) := Lib.hid (by rw [namesF, dif_pos hiL, hp])
    have HAH := Lib.hid (fun h => need_ahead HS.out hiL h)
    have HSA := Lib.hid (fun j' h1 h2 => second_ahead HS.out (i := j') h1 h2)
    have HP := Lib.hid hp
    rw [hp] at HAH
    rw [hnn] at HND
    generalize hD : ndO ⟨pk, T, V, R, F, m, s⟩ = D at HND hnn HN HAH hdl hn2
    have HDD := Lib.hid hD
    clear hg ht hvl hrl hin hD hp hn2
    have hd3 : D = 0 ∨ D = 1 ∨ D = 2 := by omega
    clear hdl
    rcases hd3 with rfl | rfl | rfl
    · rw [if_pos rfl] at HN
      go_enter Tryz.func38, Tryz.ntmps38
      go_wp2_with fail
      refine (HND.out _).mono ?_
      rintro e w2 ⟨rfl, hb2⟩
      have HB2 := Lib.hid (HB0.out.on hb2)
      clear hb2 c0 c1 c2 c3 c4 c5 c6
      obtain ⟨c0, c1, c2, c3, c4, c5, c6⟩ := HX.out _ HB2.out
      have hlt := HB2.out.2.2
      go_wp2_with fail
      refine (HLF.out _ (HIN.out.on HB2.out.2.1)).mono ?_
      rintro e w3 ⟨a3, q3, rfl, ht3, hb3⟩
      have HB3 := Lib.hid (HB2.out.on hb3)
      go_wp2
      refine bodyPost_ret (v := .slice a3 (leafO ⟨pk, T, V, R, F, m, s⟩ cert).length q3) (by simp [results, Tryz.results38, go_sem]) rfl ⟨a3, q3, by rw [HN.out], by rw [HN.out]; exact ht3, HB3.out.2.1⟩
    · rw [if_neg (by decide), if_pos rfl] at HN
      have hk := need_one hnn
      have hpos := HAH.out (by decide)
      obtain ⟨j, hj⟩ : ∃ j, i = j + 1 := ⟨i - 1, by omega⟩
      rw [show i - 1 = j by omega] at HN
      have HIJ := Lib.hid (fun W h => HIH.out j W h (by omega) (by omega))
      have HLN := Lib.hid (names_few HS.out (by rw [HV.out.len]; exact hl) cert f j (by omega) (by omega))
      have e0 : (i : Int) - 1 = (j : Int) := by omega
      have e1 : IntKind.i64.wrap (j : Int) = (j : Int) := IntWalk.i64_in _ (by omega)
      clear hj hnn hpos
      have hcs : (cert = true ∧ s = true) ∨ (cert = true ∧ s = false) ∨ cert = false := by cases cert <;> cases s <;> simp
      rcases hcs with ⟨rfl, rfl⟩ | ⟨rfl, rfl⟩ | rfl
      · rw [if_pos (show (true && true) = true from rfl)] at HN
        go_enter Tryz.func38, Tryz.ntmps38
        go_wp2_with fail
        refine (HND.out _).mono ?_
        rintro e w2 ⟨rfl, hb2⟩
        have HB2 := Lib.hid (HB0.out.on hb2)
        clear hb2 c0 c1 c2 c3 c4 c5 c6
        obtain ⟨c0, c1, c2, c3, c4, c5, c6⟩ := HX.out _ HB2.out
        have hlt := HB2.out.2.2
        go_wp2
        refine bodyPost_ret (v := .slice (some ⟨w2.heap.size, 0, none⟩) 0 0) (by simp [results, Tryz.results38, go_sem]) rfl ⟨_, 0, by rw [HN.out]; rfl, by rw [HN.out]; exact ⟨rfl, Nat.le_refl _, Nat.zero_le _, fun h => absurd h (by simp)⟩, (HB2.out.on (box_below _ _)).2.1⟩
      · rw [if_neg (by decide), if_neg (fun h => by cases h.2)] at HN
        rcases hk with rfl | rfl | rfl
        all_goals
          go_enter Tryz.func38, Tryz.ntmps38
          go_wp2_with fail
          refine (HND.out _).mono ?_
          rintro e w2 ⟨rfl, hb2⟩
          have HB2 := Lib.hid (HB0.out.on hb2)
          clear hb2 c0 c1 c2 c3 c4 c5 c6
          obtain ⟨c0, c1, c2, c3, c4, c5, c6⟩ := HX.out _ HB2.out
          have hlt := HB2.out.2.2
          go_wp2_with fail
          refine (HIJ.out _ (HV.out.on HB2.out.2.1)).mono ?_
          rintro e w3 ⟨a3, q3, rfl, ht3, hb3⟩
          have HT3 := Lib.hid ht3
          have HB3 := Lib.hid (HB2.out.on hb3)
          clear ht3 hb3 c0 c1 c2 c3 c4 c5 c6 hlt
          obtain ⟨c0, c1, c2, c3, c4, c5, c6⟩ := HX.out _ HB3.out
          have hlt := HB3.out.2.2
          go_wp2
          refine bodyPost_ret (v := .slice a3 (namesF C true f j).length q3) (by simp [results, Tryz.results38, go_sem]) rfl ⟨a3, q3, by rw [HN.out], by rw [HN.out]; exact HT3.out, HB3.out.2.1⟩
      · rw [if_neg (by simp)] at HN
        rcases hk with rfl | rfl | rfl
        · rw [if_neg (by decide)] at HN
          go_enter Tryz.func38, Tryz.ntmps38
          go_wp2_with fail
          refine (HND.out _).mono ?_
          rintro e w2 ⟨rfl, hb2⟩
          have HB2 := Lib.hid (HB0.out.on hb2)
          clear hb2 c0 c1 c2 c3 c4 c5 c6
          obtain ⟨c0, c1, c2, c3, c4, c5, c6⟩ := HX.out _ HB2.out
          have hlt := HB2.out.2.2
          go_wp2_with fail
          refine (HIJ.out _ (HV.out.on HB2.out.2.1)).mono ?_
          rintro e w3 ⟨a3, q3, rfl, ht3, hb3⟩
          have HT3 := Lib.hid ht3
          have HB3 := Lib.hid (HB2.out.on hb3)
          clear ht3 hb3 c0 c1 c2 c3 c4 c5 c6 hlt
          obtain ⟨c0, c1, c2, c3, c4, c5, c6⟩ := HX.out _ HB3.out
          have hlt := HB3.out.2.2
          go_wp2
          refine bodyPost_ret (v := .slice a3 (namesF C false f j).length q3) (by simp [results, Tryz.results38, go_sem]) rfl ⟨a3, q3, by rw [HN.out], by rw [HN.out]; exact HT3.out, HB3.out.2.1⟩
        · rw [if_pos ⟨rfl, rfl⟩] at HN
          go_enter Tryz.func38, Tryz.ntmps38
          go_wp2_with fail
          refine (HND.out _).mono ?_
          rintro e w2 ⟨rfl, hb2⟩
          have HB2 := Lib.hid (HB0.out.on hb2)
          clear hb2 c0 c1 c2 c3 c4 c5 c6
          obtain ⟨c0, c1, c2, c3, c4, c5, c6⟩ := HX.out _ HB2.out
          have hlt := HB2.out.2.2
          go_wp2_with fail
          refine (HIJ.out _ (HV.out.on HB2.out.2.1)).mono ?_
          rintro e w3 ⟨a3, q3, rfl, ht3, hb3⟩
          have HT3 := Lib.hid ht3
          have HB3 := Lib.hid (HB2.out.on hb3)
          clear ht3 hb3 c0 c1 c2 c3 c4 c5 c6 hlt
          obtain ⟨c0, c1, c2, c3, c4, c5, c6⟩ := HX.out _ HB3.out
          have hlt := HB3.out.2.2
          go_wp2_with fail
          refine (rmore_calls _ m a3 _ q3 w3 HT3.out (by have := HLN.out; omega)).mono ?_
          rintro e w4 ⟨a4, q4, rfl, ht4, hb4⟩
          have HB4 := Lib.hid (HB3.out.on hb4)
          have HT4 := Lib.hid ht4
          clear ht4 hb4
          go_wp2
          refine bodyPost_ret (v := .slice a4 (moreO (namesF C false f j) m).length q4) (by simp [results, Tryz.results38, go_sem]) rfl ⟨a4, q4, by rw [HN.out], by rw [HN.out]; exact HT4.out, HB4.out.2.1⟩
        · rw [if_neg (by decide)] at HN
          go_enter Tryz.func38, Tryz.ntmps38
          go_wp2_with fail
          refine (HND.out _).mono ?_
          rintro e w2 ⟨rfl, hb2⟩
          have HB2 := Lib.hid (HB0.out.on hb2)
          clear hb2 c0 c1 c2 c3 c4 c5 c6
          obtain ⟨c0, c1, c2, c3, c4, c5, c6⟩ := HX.out _ HB2.out
          have hlt := HB2.out.2.2
          go_wp2_with fail
          refine (HIJ.out _ (HV.out.on HB2.out.2.1)).mono ?_
          rintro e w3 ⟨a3, q3, rfl, ht3, hb3⟩
          have HT3 := Lib.hid ht3
          have HB3 := Lib.hid (HB2.out.on hb3)
          clear ht3 hb3 c0 c1 c2 c3 c4 c5 c6 hlt
          obtain ⟨c0, c1, c2, c3, c4, c5, c6⟩ := HX.out _ HB3.out
          have hlt := HB3.out.2.2
          go_wp2
          refine bodyPost_ret (v := .slice a3 (namesF C false f j).length q3) (by simp [results, Tryz.results38, go_sem]) rfl ⟨a3, q3, by rw [HN.out], by rw [HN.out]; exact HT3.out, HB3.out.2.1⟩
    · rw [if_neg (by decide), if_neg (by decide)] at HN
      have hk := need_two hnn
      have hpos := HAH.out (by decide)
      obtain ⟨j, hj⟩ : ∃ j, i = j + 1 := ⟨i - 1, by omega⟩
      have hjC : j < C.length := by omega
      have hp1 : 0 < fromC C j := by
        subst hj
        exact second_ahead HS.out hiL (by rw [HP.out]; exact HDD.out)
      have hle := fromC_le HS.out hjC
      have HSC := Lib.hid (fun W h => rSecond_calls C (some ⟨g, o, none⟩) n c W h (hhO C) (shB_hts HS.out) hl j (fromC C j) (by omega) (fromC_at HS.out hjC))
      rw [show (j : Int) + 1 = (i : Int) by omega] at HSC
      obtain ⟨q, hq⟩ : ∃ q, fromC C j = q + 1 := ⟨fromC C j - 1, by omega⟩
      rw [show i - 1 = j by omega, show fromC C j - 1 = q by omega] at HN
      have HIJ := Lib.hid (fun W h => HIH.out j W h (by omega) (by omega))
      have HIQ := Lib.hid (fun W h => HIH.out q W h (by omega) (by omega))
      have HLJ := Lib.hid (names_few HS.out (by rw [HV.out.len]; exact hl) cert f j (by omega) (by omega))
      have HLQ := Lib.hid (names_few HS.out (by rw [HV.out.len]; exact hl) cert f q (by omega) (by omega))
      have e0 : (i : Int) - 1 = (j : Int) := by omega
      have e1 : IntKind.i64.wrap (j : Int) = (j : Int) := IntWalk.i64_in _ (by omega)
      have f0 : ((fromC C j : Nat) : Int) - 1 = (q : Int) := by omega
      have f1 : IntKind.i64.wrap (q : Int) = (q : Int) := IntWalk.i64_in _ (by omega)
      generalize fromC C j = P at HSC f0 hq hp1 hle
      clear hj hnn hpos hq hp1 hle hjC
      rcases hk with rfl | rfl | rfl | rfl
      · rw [if_neg (by simp), if_neg (by simp)] at HN
        go_enter Tryz.func38, Tryz.ntmps38
        go_wp2_with fail
        refine (HND.out _).mono ?_
        rintro e w2 ⟨rfl, hb2⟩
        have HB2 := Lib.hid (HB0.out.on hb2)
        clear hb2 c0 c1 c2 c3 c4 c5 c6
        obtain ⟨c0, c1, c2, c3, c4, c5, c6⟩ := HX.out _ HB2.out
        have hlt := HB2.out.2.2
        go_wp2_with fail
        refine (HSC.out _ (HV.out.on HB2.out.2.1)).mono ?_
        rintro e w3 ⟨rfl, hb3⟩
        have HB3 := Lib.hid (HB2.out.on hb3)
        clear hb3 c0 c1 c2 c3 c4 c5 c6 hlt
        obtain ⟨c0, c1, c2, c3, c4, c5, c6⟩ := HX.out _ HB3.out
        have hlt := HB3.out.2.2
        go_wp2_with fail
        refine (HIQ.out _ (HV.out.on HB3.out.2.1)).mono ?_
        rintro e w4 ⟨a4, q4, rfl, ht4, hb4⟩
        have HT4 := Lib.hid ht4
        have HBB4 := Lib.hid hb4
        have HB4 := Lib.hid (HB3.out.on hb4)
        clear ht4 hb4 c0 c1 c2 c3 c4 c5 c6 hlt
        obtain ⟨c0, c1, c2, c3, c4, c5, c6⟩ := HX.out _ HB4.out
        have hlt := HB4.out.2.2
        go_wp2_with fail
        refine (HIJ.out _ (HV.out.on HB4.out.2.1)).mono ?_
        rintro e w5 ⟨a5, q5, rfl, ht5, hb5⟩
        have HT5 := Lib.hid ht5
        have HBB5 := Lib.hid hb5
        have HB5 := Lib.hid (HB4.out.on hb5)
        clear ht5 hb5 c0 c1 c2 c3 c4 c5 c6 hlt
        obtain ⟨c0, c1, c2, c3, c4, c5, c6⟩ := HX.out _ HB5.out
        have hlt := HB5.out.2.2
        go_wp2_with fail
        refine (runion_calls _ _ a4 a5 _ q4 _ q5 w5 (HT4.out.on HBB5.out) HT5.out (by have h1 := HLJ.out; have h2 := HLQ.out; omega)).mono ?_
        rintro e w6 ⟨a6, q6, rfl, ht6, hb6⟩
        have HB6 := Lib.hid (HB5.out.on hb6)
        have HT6 := Lib.hid ht6
        clear ht6 hb6
        go_wp2
        refine bodyPost_ret (v := .slice a6 (unionO (namesF C cert f q) (namesF C cert f j)).length q6) (by simp [results, Tryz.results38, go_sem]) rfl ⟨a6, q6, by rw [HN.out], by rw [HN.out]; exact HT6.out, HB6.out.2.1⟩
      · cases cert with
        | true =>
          rw [if_neg (by simp), if_pos ⟨rfl, rfl⟩] at HN
          go_enter Tryz.func38, Tryz.ntmps38
          go_wp2_with fail
          refine (HND.out _).mono ?_
          rintro e w2 ⟨rfl, hb2⟩
          have HB2 := Lib.hid (HB0.out.on hb2)
          clear hb2 c0 c1 c2 c3 c4 c5 c6
          obtain ⟨c0, c1, c2, c3, c4, c5, c6⟩ := HX.out _ HB2.out
          have hlt := HB2.out.2.2
          go_wp2_with fail
          refine (HSC.out _ (HV.out.on HB2.out.2.1)).mono ?_
          rintro e w3 ⟨rfl, hb3⟩
          have HB3 := Lib.hid (HB2.out.on hb3)
          clear hb3 c0 c1 c2 c3 c4 c5 c6 hlt
          obtain ⟨c0, c1, c2, c3, c4, c5, c6⟩ := HX.out _ HB3.out
          have hlt := HB3.out.2.2
          go_wp2_with fail
          refine (HIQ.out _ (HV.out.on HB3.out.2.1)).mono ?_
          rintro e w4 ⟨a4, q4, rfl, ht4, hb4⟩
          have HT4 := Lib.hid ht4
          have HBB4 := Lib.hid hb4
          have HB4 := Lib.hid (HB3.out.on hb4)
          clear ht4 hb4 c0 c1 c2 c3 c4 c5 c6 hlt
          obtain ⟨c0, c1, c2, c3, c4, c5, c6⟩ := HX.out _ HB4.out
          have hlt := HB4.out.2.2
          go_wp2_with fail
          refine (HIJ.out _ (HV.out.on HB4.out.2.1)).mono ?_
          rintro e w5 ⟨a5, q5, rfl, ht5, hb5⟩
          have HT5 := Lib.hid ht5
          have HBB5 := Lib.hid hb5
          have HB5 := Lib.hid (HB4.out.on hb5)
          clear ht5 hb5 c0 c1 c2 c3 c4 c5 c6 hlt
          obtain ⟨c0, c1, c2, c3, c4, c5, c6⟩ := HX.out _ HB5.out
          have hlt := HB5.out.2.2
          go_wp2_with fail
          refine (rmeet_calls _ _ a4 a5 _ q4 _ q5 w5 (HT4.out.on HBB5.out) HT5.out (by have h2 := HLQ.out; omega)).mono ?_
          rintro e w6 ⟨a6, q6, rfl, ht6, hb6⟩
          have HB6 := Lib.hid (HB5.out.on hb6)
          have HT6 := Lib.hid ht6
          clear ht6 hb6
          go_wp2
          refine bodyPost_ret (v := .slice a6 (meetO (namesF C true f q) (namesF C true f j)).length q6) (by simp [results, Tryz.results38, go_sem]) rfl ⟨a6, q6, by rw [HN.out], by rw [HN.out]; exact HT6.out, HB6.out.2.1⟩
        | false =>
          rw [if_neg (by simp), if_neg (by simp)] at HN
          go_enter Tryz.func38, Tryz.ntmps38
          go_wp2_with fail
          refine (HND.out _).mono ?_
          rintro e w2 ⟨rfl, hb2⟩
          have HB2 := Lib.hid (HB0.out.on hb2)
          clear hb2 c0 c1 c2 c3 c4 c5 c6
          obtain ⟨c0, c1, c2, c3, c4, c5, c6⟩ := HX.out _ HB2.out
          have hlt := HB2.out.2.2
          go_wp2_with fail
          refine (HSC.out _ (HV.out.on HB2.out.2.1)).mono ?_
          rintro e w3 ⟨rfl, hb3⟩
          have HB3 := Lib.hid (HB2.out.on hb3)
          clear hb3 c0 c1 c2 c3 c4 c5 c6 hlt
          obtain ⟨c0, c1, c2, c3, c4, c5, c6⟩ := HX.out _ HB3.out
          have hlt := HB3.out.2.2
          go_wp2_with fail
          refine (HIQ.out _ (HV.out.on HB3.out.2.1)).mono ?_
          rintro e w4 ⟨a4, q4, rfl, ht4, hb4⟩
          have HT4 := Lib.hid ht4
          have HBB4 := Lib.hid hb4
          have HB4 := Lib.hid (HB3.out.on hb4)
          clear ht4 hb4 c0 c1 c2 c3 c4 c5 c6 hlt
          obtain ⟨c0, c1, c2, c3, c4, c5, c6⟩ := HX.out _ HB4.out
          have hlt := HB4.out.2.2
          go_wp2_with fail
          refine (HIJ.out _ (HV.out.on HB4.out.2.1)).mono ?_
          rintro e w5 ⟨a5, q5, rfl, ht5, hb5⟩
          have HT5 := Lib.hid ht5
          have HBB5 := Lib.hid hb5
          have HB5 := Lib.hid (HB4.out.on hb5)
          clear ht5 hb5 c0 c1 c2 c3 c4 c5 c6 hlt
          obtain ⟨c0, c1, c2, c3, c4, c5, c6⟩ := HX.out _ HB5.out
          have hlt := HB5.out.2.2
          go_wp2_with fail
          refine (runion_calls _ _ a4 a5 _ q4 _ q5 w5 (HT4.out.on HBB5.out) HT5.out (by have h1 := HLJ.out; have h2 := HLQ.out; omega)).mono ?_
          rintro e w6 ⟨a6, q6, rfl, ht6, hb6⟩
          have HB6 := Lib.hid (HB5.out.on hb6)
          have HT6 := Lib.hid ht6
          clear ht6 hb6
          go_wp2
          refine bodyPost_ret (v := .slice a6 (unionO (namesF C false f q) (namesF C false f j)).length q6) (by simp [results, Tryz.results38, go_sem]) rfl ⟨a6, q6, by rw [HN.out], by rw [HN.out]; exact HT6.out, HB6.out.2.1⟩
      · cases cert with
        | true =>
          rw [if_pos (.inr ⟨rfl, rfl⟩)] at HN
          go_enter Tryz.func38, Tryz.ntmps38
          go_wp2_with fail
          refine (HND.out _).mono ?_
          rintro e w2 ⟨rfl, hb2⟩
          have HB2 := Lib.hid (HB0.out.on hb2)
          clear hb2 c0 c1 c2 c3 c4 c5 c6
          obtain ⟨c0, c1, c2, c3, c4, c5, c6⟩ := HX.out _ HB2.out
          have hlt := HB2.out.2.2
          go_wp2_with fail
          refine (HSC.out _ (HV.out.on HB2.out.2.1)).mono ?_
          rintro e w3 ⟨rfl, hb3⟩
          have HB3 := Lib.hid (HB2.out.on hb3)
          clear hb3 c0 c1 c2 c3 c4 c5 c6 hlt
          obtain ⟨c0, c1, c2, c3, c4, c5, c6⟩ := HX.out _ HB3.out
          have hlt := HB3.out.2.2
          go_wp2_with fail
          refine (HIQ.out _ (HV.out.on HB3.out.2.1)).mono ?_
          rintro e w4 ⟨a4, q4, rfl, ht4, hb4⟩
          have HT4 := Lib.hid ht4
          have HBB4 := Lib.hid hb4
          have HB4 := Lib.hid (HB3.out.on hb4)
          clear ht4 hb4 c0 c1 c2 c3 c4 c5 c6 hlt
          obtain ⟨c0, c1, c2, c3, c4, c5, c6⟩ := HX.out _ HB4.out
          have hlt := HB4.out.2.2
          go_wp2
          refine bodyPost_ret (v := .slice a4 (namesF C true f q).length q4) (by simp [results, Tryz.results38, go_sem]) rfl ⟨a4, q4, by rw [HN.out], by rw [HN.out]; exact HT4.out, HB4.out.2.1⟩
        | false =>
          rw [if_neg (by simp), if_neg (by simp)] at HN
          go_enter Tryz.func38, Tryz.ntmps38
          go_wp2_with fail
          refine (HND.out _).mono ?_
          rintro e w2 ⟨rfl, hb2⟩
          have HB2 := Lib.hid (HB0.out.on hb2)
          clear hb2 c0 c1 c2 c3 c4 c5 c6
          obtain ⟨c0, c1, c2, c3, c4, c5, c6⟩ := HX.out _ HB2.out
          have hlt := HB2.out.2.2
          go_wp2_with fail
          refine (HSC.out _ (HV.out.on HB2.out.2.1)).mono ?_
          rintro e w3 ⟨rfl, hb3⟩
          have HB3 := Lib.hid (HB2.out.on hb3)
          clear hb3 c0 c1 c2 c3 c4 c5 c6 hlt
          obtain ⟨c0, c1, c2, c3, c4, c5, c6⟩ := HX.out _ HB3.out
          have hlt := HB3.out.2.2
          go_wp2_with fail
          refine (HIQ.out _ (HV.out.on HB3.out.2.1)).mono ?_
          rintro e w4 ⟨a4, q4, rfl, ht4, hb4⟩
          have HT4 := Lib.hid ht4
          have HBB4 := Lib.hid hb4
          have HB4 := Lib.hid (HB3.out.on hb4)
          clear ht4 hb4 c0 c1 c2 c3 c4 c5 c6 hlt
          obtain ⟨c0, c1, c2, c3, c4, c5, c6⟩ := HX.out _ HB4.out
          have hlt := HB4.out.2.2
          go_wp2_with fail
          refine (HIJ.out _ (HV.out.on HB4.out.2.1)).mono ?_
          rintro e w5 ⟨a5, q5, rfl, ht5, hb5⟩
          have HT5 := Lib.hid ht5
          have HBB5 := Lib.hid hb5
          have HB5 := Lib.hid (HB4.out.on hb5)
          clear ht5 hb5 c0 c1 c2 c3 c4 c5 c6 hlt
          obtain ⟨c0, c1, c2, c3, c4, c5, c6⟩ := HX.out _ HB5.out
          have hlt := HB5.out.2.2
          go_wp2_with fail
          refine (runion_calls _ _ a4 a5 _ q4 _ q5 w5 (HT4.out.on HBB5.out) HT5.out (by have h1 := HLJ.out; have h2 := HLQ.out; omega)).mono ?_
          rintro e w6 ⟨a6, q6, rfl, ht6, hb6⟩
          have HB6 := Lib.hid (HB5.out.on hb6)
          have HT6 := Lib.hid ht6
          clear ht6 hb6
          go_wp2
          refine bodyPost_ret (v := .slice a6 (unionO (namesF C false f q) (namesF C false f j)).length q6) (by simp [results, Tryz.results38, go_sem]) rfl ⟨a6, q6, by rw [HN.out], by rw [HN.out]; exact HT6.out, HB6.out.2.1⟩
      · rw [if_pos (.inl rfl)] at HN
        go_enter Tryz.func38, Tryz.ntmps38
        go_wp2_with fail
        refine (HND.out _).mono ?_
        rintro e w2 ⟨rfl, hb2⟩
        have HB2 := Lib.hid (HB0.out.on hb2)
        clear hb2 c0 c1 c2 c3 c4 c5 c6
        obtain ⟨c0, c1, c2, c3, c4, c5, c6⟩ := HX.out _ HB2.out
        have hlt := HB2.out.2.2
        go_wp2_with fail
        refine (HSC.out _ (HV.out.on HB2.out.2.1)).mono ?_
        rintro e w3 ⟨rfl, hb3⟩
        have HB3 := Lib.hid (HB2.out.on hb3)
        clear hb3 c0 c1 c2 c3 c4 c5 c6 hlt
        obtain ⟨c0, c1, c2, c3, c4, c5, c6⟩ := HX.out _ HB3.out
        have hlt := HB3.out.2.2
        go_wp2_with fail
        refine (HIQ.out _ (HV.out.on HB3.out.2.1)).mono ?_
        rintro e w4 ⟨a4, q4, rfl, ht4, hb4⟩
        have HT4 := Lib.hid ht4
        have HBB4 := Lib.hid hb4
        have HB4 := Lib.hid (HB3.out.on hb4)
        clear ht4 hb4 c0 c1 c2 c3 c4 c5 c6 hlt
        obtain ⟨c0, c1, c2, c3, c4, c5, c6⟩ := HX.out _ HB4.out
        have hlt := HB4.out.2.2
        go_wp2
        refine bodyPost_ret (v := .slice a4 (namesF C cert f q).length q4) (by simp [results, Tryz.results38, go_sem]) rfl ⟨a4, q4, by rw [HN.out], by rw [HN.out]; exact HT4.out, HB4.out.2.1⟩

end Go.Proofs.YtiliobfgmelncaaGreat

namespace Go.Proofs.YtiliobfgmelncaaGreat
open Go.RowKit

/- the kind's cell of each operation -/
theorem OpsA.kind {w : World} {a : Option Addr} {n c : Nat} {C : List OpL} (h : OpsA w a n c C) (h0 : 0 < n) : ∃ g o, a = some ⟨g, o, none⟩ ∧ g < w.heap.size ∧ ∀ j, j < C.length → w.cell? ⟨g, o + j * 7, none⟩ = some (.int .i64 (kindO C j)) := by
  obtain ⟨g, o, ha, hg, hc⟩ := h.cells h0
  refine ⟨g, o, ha, hg, fun j hj => ?_⟩
  obtain ⟨A, h7, _⟩ := hc j hj
  rw [kindO_at hj]
  exact h7.1

set_option maxRecDepth 100000 in
set_option maxHeartbeats 4000000 in
theorem rnested_calls (C : List OpL) (a : Option Addr) (n c : Nat) (w : World) (hv : OpsA w a n c C) (hs : shB C = true) (hl : n ≤ 128) :
    Calls Tryz.prog 36 #[.slice a n c] w fun e w' => e = .returned (.bool (nestB C)) ∧ Below w.heap.size w w' := by
  have HV := Lib.hid hv
  have HL := Lib.hid hv.len
  have hcp := hv.cap
  have hms := hv.most
  unfold maxLen at hms
  have HK := Lib.hid (fun h0 => hv.kind h0)
  have HF := Lib.hid (fun i (hi : i < n) W (hW : Below w.heap.size w W) => rOFrom_calls C a n c W (hv.on hW) (hhO C) (shB_hts hs) hl i (fromC C i) hi (fromC_at hs (by rw [hv.len]; exact hi)))
  have HFL := Lib.hid (fun i (hi : i < n) => fromC_le hs (i := i) (by rw [hv.len]; exact hi))
  clear hv hs
  go_enter Tryz.func36, Tryz.ntmps36
  go_wp2
  go_loopg [3] n (fun g i wr => ∃ k : Nat, i = .int .i64 k ∧ k + g = n ∧ Hid (NestR C k) ∧ Hid (Below w.heap.size w wr))
  case atStart => exact ⟨0, rfl, by omega, Lib.hid (nest_start C), Lib.hid (Below.refl _ _)⟩
  case round =>
    obtain ⟨W1, rfl⟩ : ∃ W1, W1 = wr := ⟨_, rfl⟩
    obtain ⟨k, rfl, hkg, HR, HB⟩ := hrel
    by_cases hk : k < n
    · obtain ⟨gg, rfl⟩ : ∃ gg, gk = gg + 1 := ⟨gk - 1, by omega⟩
      have hkL : k < C.length := by rw [HL.out]; exact hk
      obtain ⟨g, o, ha, hgw, hcells⟩ := HK.out (by omega)
      subst ha
      have HC := Lib.hid hcells
      clear hcells
      have hgW : g < W1.heap.size := Nat.lt_of_lt_of_le hgw HB.out.size
      have c0 := (HB.out.cell (p := ⟨g, o + k * 7, none⟩) hgw).trans (HC.out k hkL)
      have k0 : (0 : Int) ≤ (k : Int) := by omega
      have k1 : (k : Int) < (n : Int) := by omega
      by_cases h9 : kindO C k = 9
      · rw [h9] at c0
        have HFK := Lib.hid (HF.out k hk W1 HB.out)
        have hfl := HFL.out k hk
        have HK9 := Lib.hid h9
        have HNX := Lib.hid (fun h => nest_next HR.out h)
        have HYS := Lib.hid (fun j h1 h2 h3 => nest_yes (k := j) hkL h9 h1 h2 h3)
        obtain ⟨f, hf⟩ : ∃ f, fromC C k = f := ⟨_, rfl⟩
        rw [hf] at HFK hfl HNX HYS
        clear h9 hf HR hkL
        go_wp2_with fail
        refine HFK.out.mono ?_
        rintro e w2 ⟨rfl, hb2⟩
        have HB2 := Lib.hid (HB.out.trans (hb2.mono HB.out.size))
        clear hb2 c0
        go_wp2
        go_loopg [4] (k - f) (fun gh i wr => ∃ j : Nat, i = .int .i64 j ∧ j + gh = k ∧ f ≤ j ∧ Hid (∀ x, f ≤ x → x < j → kindO C x ≠ 9) ∧ wr = w2)
        case atStart => exact ⟨f, rfl, by omega, Nat.le_refl _, Lib.hid (fun x a b => absurd a (by omega)), rfl⟩
        case round =>
          obtain ⟨j, rfl, hjg, hfj, HJ, rfl⟩ := hrel
          have hgW2 : g < wr.heap.size := Nat.lt_of_lt_of_le hgw HB2.out.size
          by_cases hj : j < k
          · obtain ⟨hh, rfl⟩ : ∃ hh, gk = hh + 1 := ⟨gk - 1, by omega⟩
            have c0 := (HB2.out.cell (p := ⟨g, o + j * 7, none⟩) hgw).trans (HC.out j (by rw [HL.out]; omega))
            have j0 : (0 : Int) ≤ (j : Int) := by omega
            have j1 : (j : Int) < (n : Int) := by omega
            by_cases h9 : kindO C j = 9
            · rw [h9] at c0
              have HE := Lib.hid (HYS.out j hfj hj h9)
              clear h9
              go_wp2
              go_ret
              exact ⟨by rw [HE.out]; rfl, HB2.out⟩
            · have g9 : (kindO C j == 9) = false := beq_eq_false_iff_ne.2 h9
              have HJ2 := Lib.hid (show ∀ x, f ≤ x → x < j + 1 → kindO C x ≠ 9 from fun x a b => by
                by_cases hx : x = j
                · subst hx; exact h9
                · exact HJ.out x a (by omega))
              clear h9
              generalize kindO C j = K at c0 g9
              go_wp2
              go_roundg hh
              case measure => omega
              case rel => exact ⟨j + 1, by go_num, by omega, by omega, HJ2, rfl⟩
          · have k2 : ¬ (j : Int) < (k : Int) := by omega
            have hjk : j = k := by omega
            have HR2 := Lib.hid (HNX.out (fun x a b => HJ.out x a (by omega)))
            go_wp2
            go_roundg gg
            case measure => omega
            case rel => exact ⟨k + 1, by go_num, by omega, HR2, HB2⟩
      · have g9 : (kindO C k != 9) = true := bne_iff_ne.2 h9
        have HR2 := Lib.hid (nest_skip HR.out h9)
        clear h9
        generalize kindO C k = K at c0 g9
        go_wp2
        go_roundg gg
        case measure => omega
        case rel => exact ⟨k + 1, by go_num, by omega, HR2, HB⟩
    · have HE := Lib.hid (nest_no HR.out (by rw [HL.out]; omega))
      have k1 : ¬ (k : Int) < (n : Int) := by omega
      go_wp2
      go_ret
      exact ⟨by rw [HE.out]; rfl, HB.out⟩

end Go.Proofs.YtiliobfgmelncaaGreat
