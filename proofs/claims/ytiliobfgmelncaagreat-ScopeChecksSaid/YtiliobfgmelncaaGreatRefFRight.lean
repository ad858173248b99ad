/- Which parts are right, by the document's own answer, for every part. -/
import Derived.Test.YtiliobfgmelncaaGreatFormRights
import Derived.Test.YtiliobfgmelncaaGreatFormNeedss
import Derived.Test.YtiliobfgmelncaaGreatRefTrips
namespace Go.Proofs.YtiliobfgmelncaaGreat
open Go.RowKit

set_option maxRecDepth 100000 in
set_option maxHeartbeats 4000000 in
theorem rFRight_calls (p : PartL) (hp : p.ok) (w : World) : Calls Tryz.prog 51 #[p.v] w fun e w' => e = .returned (.bool (goodM p)) ∧ Below w.heap.size w w' := by
  have HND := Lib.hid (fun W => rNeeds_calls p W)
  have HV := Lib.hid (fun W => rRight_calls p.t.k (bs p.t.x) (bs p.t.y) (bs p.t.z) W hp.1.1 hp.1.2.1 hp.1.2.2)
  have HN := Lib.hid (fun W => rIsName_calls (bs p.m) W hp.2)
  have hgood : goodM p = (decide (0 ≤ refNeed p) && (decide (p.k = 26) || decide (p.c = 0)) && rightM p) := by
    unfold goodM
    congr 1
    unfold needM refNeed
    by_cases h : p.k = 26
    · rw [if_pos h, if_pos h, decide_eq_true h]; simp
    · rw [if_neg h, if_neg h, decide_eq_false h]
      by_cases hc : p.c = 0
      · rw [if_pos hc, decide_eq_true hc]; simp
      · rw [if_neg hc, decide_eq_false hc]; simp
  clear hp
  obtain ⟨k, ⟨tk, tx, ty, tz⟩, m, c⟩ := p
  simp only [bs_data, PartL.v] at HV HN HND
  simp only [PartL.v]
  have HB := Lib.hid (bs_toList m)
  obtain ⟨nn, hnn⟩ : ∃ nn, refNeed ⟨k, ⟨tk, tx, ty, tz⟩, m, c⟩ = nn := ⟨_, rfl⟩
  rw [hnn] at HND hgood
  dsimp only at hgood
  clear hnn
  by_cases h0 : 0 ≤ nn
  · by_cases hkc : k = 26 ∨ c = 0
    · have hg2 : goodM ⟨k, ⟨tk, tx, ty, tz⟩, m, c⟩ = rightM ⟨k, ⟨tk, tx, ty, tz⟩, m, c⟩ := by
        rw [hgood, decide_eq_true h0, Bool.true_and]
        rcases hkc with h | h
        · rw [decide_eq_true h]; simp
        · rw [decide_eq_true h]; simp
      have g0 : ¬ nn < 0 := by omega
      have gd : decide (nn < 0) = false := decide_eq_false g0
      have gk : k = 26 ∨ ((k != 26) = true ∧ c = 0) := by
        by_cases h : k = 26
        · exact .inl h
        · exact .inr ⟨bne_iff_ne.2 h, by omega⟩
      clear hgood h0 hkc
      by_cases h1 : k = 1
      · subst h1
        obtain ⟨R, hR⟩ : ∃ R, rightL tk tx ty tz = R := ⟨_, rfl⟩
        have HR := Lib.hid (hg2.trans (show rightM ⟨1, ⟨tk, tx, ty, tz⟩, m, c⟩ = ((((decide (tk = 1) || decide (tk = 2)) && R)) && m.isEmpty) by unfold rightM; rw [← hR]; rfl))
        rw [hR] at HV
        clear hg2 hR
        rcases gk with gk | ⟨gk, rfl⟩
        · exact absurd gk (by decide)
        · cases m with
          | cons u v =>
            have ge : (bs (u :: v)).toList.isEmpty = false := by rw [bs_toList]; rfl
            go_enter Tryz.func51, Tryz.ntmps51
            go_wp2_with fail
            refine (HND.out _).mono ?_
            rintro e w1 ⟨rfl, hb1⟩
            obtain ⟨hc, hf⟩ := bcell hb1
            have hB := Lib.hid ((box_below w _).trans (hb1.mono (by simp)))
            clear hb1
            go_wp2
            go_ret
            exact ⟨by rw [HR.out]; simp, hB.out⟩
          | nil =>
            have ge : (bs []).toList.isEmpty = true := by rw [bs_toList]; rfl
            cases R with
            | false =>
              go_enter Tryz.func51, Tryz.ntmps51
              go_wp2_with fail
              refine (HND.out _).mono ?_
              rintro e w1 ⟨rfl, hb1⟩
              obtain ⟨hc, hf⟩ := bcell hb1
              have hB := Lib.hid hb1
              clear hb1
              go_wp2_with fail
              refine (HV.out _).mono ?_
              rintro e w2 ⟨rfl, hb2⟩
              replace hb2 := bnext hB.out hb2
              clear hc hf
              obtain ⟨hc, hf⟩ := bcell hb2
              have hB2 := Lib.hid ((box_below w _).trans (hb2.mono (by simp)))
              clear hb2
              go_wp2
              go_ret
              exact ⟨by rw [HR.out]; simp, hB2.out⟩
            | true =>
              have gt : (tk == 1) = true ∨ ((tk == 1) = false ∧ ((tk == 2) = true ∨ (tk == 2) = false)) := by cases (tk == 1) <;> cases (tk == 2) <;> simp
              have e1 : decide (tk = 1) = (tk == 1) := by rw [Bool.eq_iff_iff]; simp
              have e2 : decide (tk = 2) = (tk == 2) := by rw [Bool.eq_iff_iff]; simp
              rw [e1, e2] at HR
              clear e1 e2
              rcases gt with gt | ⟨gt, gt2 | gt2⟩
              all_goals
                go_enter Tryz.func51, Tryz.ntmps51
                go_wp2_with fail
                refine (HND.out _).mono ?_
                rintro e w1 ⟨rfl, hb1⟩
                obtain ⟨hc, hf⟩ := bcell hb1
                have hB := Lib.hid hb1
                clear hb1
                go_wp2_with fail
                refine (HV.out _).mono ?_
                rintro e w2 ⟨rfl, hb2⟩
                replace hb2 := bnext hB.out hb2
                clear hc hf
                obtain ⟨hc, hf⟩ := bcell hb2
                have hB2 := Lib.hid ((box_below w _).trans (hb2.mono (by simp)))
                clear hb2
                go_wp2
                go_ret
                refine ⟨?_, hB2.out⟩
                rw [HR.out]
                simp_all
      · have g1 : (k == 1) = false := beq_eq_false_iff_ne.2 h1
        have heq := fun W => neql_termz ⟨tk, tx, ty, tz⟩ W
        dsimp only at heq
        obtain ⟨N, hN⟩ : ∃ N, nameL m = N := ⟨_, rfl⟩
        obtain ⟨Z, hZ⟩ : ∃ Z, zeroT ⟨tk, tx, ty, tz⟩ = Z := ⟨_, rfl⟩
        rw [hN] at HN
        rw [hZ] at heq
        have HR := Lib.hid (hg2.trans (show rightM ⟨k, ⟨tk, tx, ty, tz⟩, m, c⟩ = if k = 2 ∨ k = 3 then N && Z else m.isEmpty && Z by unfold rightM; rw [if_neg h1, ← hN, ← hZ]))
        clear hN h1 HV hZ hg2
        cases Z with
        | false =>
          have HR2 := Lib.hid (HR.out.trans (show _ = false by split <;> simp))
          rcases gk with rfl | ⟨gk, rfl⟩
          all_goals
            go_enter Tryz.func51, Tryz.ntmps51
            go_wp2_with fail
            refine (HND.out _).mono ?_
            rintro e w1 ⟨rfl, hb1⟩
            obtain ⟨hc, hf⟩ := bcell hb1
            have hB := Lib.hid ((box_below w _).trans (hb1.mono (by simp)))
            clear hb1
            go_wp2
            go_ret
            exact ⟨by rw [HR2.out]; rfl, hB.out⟩
        | true =>
          by_cases h2 : k = 2 ∨ k = 3
          · have HR2 := Lib.hid (HR.out.trans (show _ = N by rw [if_pos h2, Bool.and_true]))
            clear HR
            rcases gk with gk | ⟨gk, rfl⟩
            · exact absurd gk (by omega)
            · rcases h2 with rfl | rfl
              all_goals
                go_enter Tryz.func51, Tryz.ntmps51
                go_wp2_with fail
                refine (HND.out _).mono ?_
                rintro e w1 ⟨rfl, hb1⟩
                obtain ⟨hc, hf⟩ := bcell hb1
                have hB := Lib.hid ((box_below w _).trans (hb1.mono (by simp)))
                clear hb1
                go_wp2_with fail
                refine (HN.out _).mono ?_
                rintro e w2 ⟨rfl, hw2⟩
                obtain rfl := hw2.symm
                clear hw2
                go_wp2
                go_ret
                exact ⟨by rw [HR2.out]; rfl, hB.out⟩
          · have HR2 := Lib.hid (HR.out.trans (show _ = m.isEmpty by rw [if_neg h2, Bool.and_true]))
            have g2 : (k == 2) = false := beq_eq_false_iff_ne.2 (by omega)
            have g3 : (k == 3) = false := beq_eq_false_iff_ne.2 (by omega)
            clear HR h2
            rcases gk with rfl | ⟨gk, rfl⟩
            all_goals
              go_enter Tryz.func51, Tryz.ntmps51
              go_wp2_with fail
              refine (HND.out _).mono ?_
              rintro e w1 ⟨rfl, hb1⟩
              obtain ⟨hc, hf⟩ := bcell hb1
              have hB := Lib.hid ((box_below w _).trans (hb1.mono (by simp)))
              clear hb1
              go_wp2
              go_ret
              refine ⟨?_, hB.out⟩
              rw [HR2.out]
              (show Ending.returned (.bool (bs m).toList.isEmpty) = _; rw [HB.out])
    · have hk26 : ¬ k = 26 := fun h => hkc (.inl h)
      have hc0 : ¬ c = 0 := fun h => hkc (.inr h)
      have HR := Lib.hid (show goodM ⟨k, ⟨tk, tx, ty, tz⟩, m, c⟩ = false by rw [hgood, decide_eq_false hk26, decide_eq_false hc0]; simp)
      have g0 : ¬ nn < 0 := by omega
      have gd : decide (nn < 0) = false := decide_eq_false g0
      have gk : (k != 26) = true := bne_iff_ne.2 hk26
      have gc : (c != 0) = true := bne_iff_ne.2 hc0
      clear hgood h0 hkc hk26 hc0
      go_enter Tryz.func51, Tryz.ntmps51
      go_wp2_with fail
      refine (HND.out _).mono ?_
      rintro e w1 ⟨rfl, hb1⟩
      obtain ⟨hc, hf⟩ := bcell hb1
      have hB := Lib.hid ((box_below w _).trans (hb1.mono (by simp)))
      clear hb1
      go_wp2
      go_ret
      exact ⟨by rw [HR.out]; rfl, hB.out⟩
  · have HR := Lib.hid (show goodM ⟨k, ⟨tk, tx, ty, tz⟩, m, c⟩ = false by rw [hgood, decide_eq_false h0]; simp)
    have g0 : nn < 0 := by omega
    have gd : decide (nn < 0) = true := decide_eq_true g0
    clear hgood h0
    go_enter Tryz.func51, Tryz.ntmps51
    go_wp2_with fail
    refine (HND.out _).mono ?_
    rintro e w1 ⟨rfl, hb1⟩
    have hB := Lib.hid ((box_below w _).trans (hb1.mono (by simp)))
    clear hb1
    go_wp2
    go_ret
    exact ⟨by rw [HR.out]; rfl, hB.out⟩

end Go.Proofs.YtiliobfgmelncaaGreat
