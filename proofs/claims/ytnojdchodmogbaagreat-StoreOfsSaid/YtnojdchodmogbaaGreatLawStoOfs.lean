/- The law StoreOfs: it is true of any triples. -/
import Derived.Test.YtnojdchodmogbaaGreatRefOf
import Derived.Test.YtnojdchodmogbaaGreatRefSame
import Derived.Test.YtnojdchodmogbaaGreatStoAwake
namespace Go.Proofs.YtnojdchodmogbaaGreat
open Go.RowKit

set_option maxHeartbeats 1000000 in
theorem all_nil_own (w : World) : Calls Tryz.prog 15 #[.pointer none] w fun e w' => e = .returned (.slice none 0 0) ∧ w' = w := by
  go_enter Tryz.func15, Tryz.ntmps15
  go_wp2
  go_ret
  exact ⟨rfl, rfl⟩

set_option maxRecDepth 100000 in
set_option maxHeartbeats 8000000 in
theorem storeOfs_calls (L : List TripL) (v : Value) (w : World) (hv : ArgT w v L) (hok : ∀ t ∈ L, t.ok) :
    Calls Tryz.prog 4 #[v] w fun e w' => e = .returned (.bool true) ∧ Below w.heap.size w w' := by
  have hv0 := Lib.hid hv
  obtain ⟨fa, fc, hve, _⟩ := hv
  obtain ⟨N, hN⟩ : ∃ N, L.length = N := ⟨_, rfl⟩
  rw [hN] at hve
  have HN := Lib.hid hN
  have HOK := Lib.hid hok
  clear hok hN
  by_cases hbig : 200 < N
  · have g1 : (200 : Int) < (N : Int) := by omega
    subst hve
    clear hv0
    go_enter Tryz.func4, Tryz.ntmps4
    go_wp2_with fail
    refine (awake_calls _).mono ?_
    rintro e w1 ⟨rfl, hb1⟩
    go_wp2
    go_ret
    exact ⟨rfl, by first | exact hb1 | exact hb1.drew⟩
  · have g1 : ¬ (200 : Int) < (N : Int) := by omega
    have hof := Lib.hid (fun (W : World) (h : ArgT W v L) => of_calls L v W h HOK.out (by have := HN.out; omega))
    have hrof := Lib.hid (fun (W : World) (h : ArgT W v L) => rOf_calls L v W h HOK.out (by have := HN.out; omega))
    have hll := Lib.hid (show (ofL L).length ≤ 1000000000000 by have := ofL_length L; have := HN.out; omega)
    subst hve
    go_enter Tryz.func4, Tryz.ntmps4
    go_wp2_with fail
    refine (hof.out _ hv0.out).mono ?_
    intro e w1 h1
    by_cases hall : L.all tripB = true
    · unfold OfT at h1
      rw [if_pos hall] at h1
      obtain ⟨b, rfl, ⟨v0, v1, v2, l1, l2, hst⟩, hb1⟩ := h1
      have HST := Lib.hid hst
      have HB1 := Lib.hid hb1
      clear hst hb1
      go_wp2_with fail
      refine (hrof.out _ (hv0.out.on HB1.out)).mono ?_
      intro e w2 h2
      unfold ROfT at h2
      rw [if_pos hall] at h2
      obtain ⟨hb2, v', rfl, hown⟩ := h2
      have HST2 := Lib.hid (sto_on HST.out hb2 (Nat.le_refl _))
      have HB2 := Lib.hid (first_below HB1.out hb2)
      have HO2 := Lib.hid hown
      clear hb2 hown HST HB1 hall
      go_wp2_with fail
      refine (all_calls _ b v0 v1 v2 (ofL L) l1 l2 _ HST2.out).mono ?_
      rintro e w3 ⟨va, rfl, hoa, hb3⟩
      have HO3 := Lib.hid (own_on HO2.out hb3 (Nat.le_refl _))
      have HB3 := Lib.hid (first_below HB2.out hb3)
      have HA3 := Lib.hid hoa
      clear hb3 hoa
      go_wp2_with fail
      refine (Same_calls (ofL L) va v' _ hll.out (reads_of HA3.out) (reads_of HO3.out)).mono ?_
      rintro e w4 ⟨rfl, n, rfl⟩
      have HB4 := Lib.hid (drewN_below HB3.out n)
      go_wp2_with fail
      refine (awake_calls _).mono ?_
      rintro e w5 ⟨rfl, hb5⟩
      have HB5 := Lib.hid (first_below HB4.out hb5)
      clear hb5
      go_wp2
      go_ret
      exact ⟨rfl, by first | exact HB5.out | exact HB5.out.drew⟩
    · unfold OfT at h1
      rw [if_neg hall] at h1
      obtain ⟨rfl, hb1⟩ := h1
      have HB1 := Lib.hid hb1
      clear hb1
      go_wp2_with fail
      refine (hrof.out _ (hv0.out.on HB1.out)).mono ?_
      intro e w2 h2
      unfold ROfT at h2
      rw [if_neg hall] at h2
      obtain ⟨hb2, rfl⟩ := h2
      have HB2 := Lib.hid (first_below HB1.out hb2)
      clear hb2 HB1 hall
      go_wp2_with fail
      refine (all_nil_own _).mono ?_
      rintro e w3 ⟨rfl, rfl⟩
      go_wp2_with fail
      refine (Same_calls [] (.slice none 0 0) (.slice none 0 0) _ (by decide) (.inl ⟨rfl, rfl⟩) (.inl ⟨rfl, rfl⟩)).mono ?_
      rintro e w4 ⟨rfl, n, rfl⟩
      have HB4 := Lib.hid (drewN_below HB2.out n)
      go_wp2_with fail
      refine (awake_calls _).mono ?_
      rintro e w5 ⟨rfl, hb5⟩
      have HB5 := Lib.hid (first_below HB4.out hb5)
      clear hb5
      go_wp2
      go_ret
      exact ⟨rfl, by first | exact HB5.out | exact HB5.out.drew⟩

end Go.Proofs.YtnojdchodmogbaaGreat
