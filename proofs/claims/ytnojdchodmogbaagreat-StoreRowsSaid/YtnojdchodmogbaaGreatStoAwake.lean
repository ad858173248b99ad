/- The program answers: the statements' awake. -/
import Derived.Test.YtnojdchodmogbaaGreatStoOf
import Derived.Test.YtnojdchodmogbaaGreatStoMatch
namespace Go.Proofs.YtnojdchodmogbaaGreat
open Go.RowKit

def awakeT : TripL := ⟨⟨1, [97], [], []⟩, ⟨1, [98], [], []⟩, ⟨1, [99], [], []⟩⟩
def awakeP : TripL := ⟨⟨4, [120], [], []⟩, ⟨1, [98], [], []⟩, ⟨4, [121], [], []⟩⟩
theorem awake_okT : awakeT.ok := by unfold TripL.ok TermL.ok; decide
theorem awake_okP : awakeP.ok := by unfold TripL.ok TermL.ok; decide
theorem awake_all : [awakeT].all tripB = true := by kernel_rfl
theorem awake_of : ofL [awakeT] = [awakeT] := by kernel_rfl
theorem awake_pat : patB awakeP = true := by kernel_rfl
theorem awake_found : [awakeT].filter (matchB awakeP) = [awakeT] := by kernel_rfl
theorem awake_row : cellsT (rowP awakeP awakeT) = [.int .i64 1, .string ⟨#[97]⟩, .string ⟨#[]⟩, .string ⟨#[]⟩, .int .i64 1, .string ⟨#[99]⟩, .string ⟨#[]⟩, .string ⟨#[]⟩] := by kernel_rfl
theorem awake_vars : (varsL awakeP).length = 2 := by kernel_rfl

set_option maxHeartbeats 1000000 in
theorem law_iri (s : ByteArray) (w : World) : Calls Tryz.prog 39 #[.string s] w fun e w' => e = .returned (.agg #[.int .i64 1, .string s, .string ⟨#[]⟩, .string ⟨#[]⟩]) ∧ Below w.heap.size w w' := by
  go_enter Tryz.func39, Tryz.ntmps39
  go_wp2
  refine bodyPost_ret (v := .agg #[.int .i64 1, .string s, .string ⟨#[]⟩, .string ⟨#[]⟩]) (by simp [results, Tryz.results39, go_sem]) rfl ⟨rfl, ?_⟩
  exact box_below _ _

set_option maxHeartbeats 1000000 in
theorem law_name (s : ByteArray) (w : World) : Calls Tryz.prog 31 #[.string s] w fun e w' => e = .returned (.agg #[.int .i64 4, .string s, .string ⟨#[]⟩, .string ⟨#[]⟩]) ∧ Below w.heap.size w w' := by
  go_enter Tryz.func31, Tryz.ntmps31
  go_wp2
  refine bodyPost_ret (v := .agg #[.int .i64 4, .string s, .string ⟨#[]⟩, .string ⟨#[]⟩]) (by simp [results, Tryz.results31, go_sem]) rfl ⟨rfl, ?_⟩
  exact box_below _ _

/- what Match told -/
theorem awake_told {w w' : World} {e : Ending} (h : MatchT (patB awakeP) awakeP ([awakeT].filter (matchB awakeP)) w e w') : Below w.heap.size w w' ∧
    ∃ va vn vc G g, e = .returned (.tuple #[.agg #[.slice va vn vc, .slice (some ⟨G, 0, none⟩) 1 1], .int .i64 0]) ∧ G < w'.heap.size ∧ g < w'.heap.size ∧ w'.cell? ⟨G, 0, none⟩ = some (.slice (some ⟨g, 0, none⟩) 2 2) ∧ w'.cell? ⟨g, 5, none⟩ = some (.string ⟨#[99]⟩) := by
  rw [awake_found] at h
  obtain ⟨hb, h⟩ := h
  rw [if_pos awake_pat] at h
  obtain ⟨tv, rfl, vv, G, rfl, hV, hG, gs, hl, hB, hr⟩ := h
  obtain ⟨va, vc, rfl⟩ := owns_slice hV
  match gs, hl with
  | [g], _ =>
    obtain ⟨_, t, ht, hg⟩ := hr 0 g rfl
    simp at ht
    subst ht
    rw [awake_row] at hg
    refine ⟨hb, _, _, _, G, g, rfl, blk_lt hB, blk_lt hg, ?_, ?_⟩
    · rw [blk_cell hB, awake_vars]; rfl
    · rw [blk_cell hg]; rfl

set_option maxRecDepth 100000 in
set_option maxHeartbeats 4000000 in
theorem awake_calls (w : World) : Calls Tryz.prog 19 #[] w fun e w' => e = .returned (.bool true) ∧ Below w.heap.size w w' := by
  go_enter Tryz.func19, Tryz.ntmps19
  go_wp2_with fail
  refine (law_iri _ _).mono ?_
  rintro e w1 ⟨rfl, hb1⟩
  go_wp2_with fail
  refine (law_iri _ _).mono ?_
  rintro e w2 ⟨rfl, hb2⟩
  replace hb2 := first_below hb1 hb2
  clear hb1
  go_wp2_with fail
  refine (law_iri _ _).mono ?_
  rintro e w3 ⟨rfl, hb3⟩
  replace hb3 := first_below hb2 hb3
  clear hb2
  go_wp2_with fail
  have hown : (w3.alloc (.cells (cells12 awakeT) 29)).ownsRow w.heap.size 29 12 (.slice (some ⟨w3.heap.size, 0, none⟩) 1 1) 1 (tripCells [awakeT]) :=
    ⟨rfl, .inr ⟨w3.heap.size, 1, cells12 awakeT, rfl, hb3.size, blk_new _ _ _, Nat.le_refl _, by decide, rfl, rfl⟩⟩
  refine (of_calls [awakeT] (.slice (some ⟨w3.heap.size, 0, none⟩) 1 1) _ (arg_of (reads_of hown)) (by intro t ht; simp at ht; rw [ht]; exact awake_okT) (by decide)).mono ?_
  rintro e w4 h4
  unfold OfT at h4
  rw [if_pos awake_all, awake_of] at h4
  obtain ⟨b, rfl, ⟨v0, v1, v2, l1, l2, hst⟩, hb4⟩ := h4
  replace hb4 := first_below hb3 (one_box hb4)
  go_wp2_with fail
  refine (law_name _ _).mono ?_
  rintro e w5 ⟨rfl, hb5⟩
  replace hst := sto_on hst hb5 (Nat.le_refl _)
  replace hb5 := first_below hb4 hb5
  go_wp2_with fail
  refine (law_iri _ _).mono ?_
  rintro e w6 ⟨rfl, hb6⟩
  replace hst := sto_on hst hb6 (Nat.le_refl _)
  replace hb6 := first_below hb5 hb6
  go_wp2_with fail
  refine (law_name _ _).mono ?_
  rintro e w7 ⟨rfl, hb7⟩
  replace hst := sto_on hst hb7 (Nat.le_refl _)
  replace hb7 := Lib.hid (first_below hb6 hb7)
  clear hb3 hb4 hb5 hb6 hown
  go_wp2_with fail
  refine (Match_calls _ b v0 v1 v2 [awakeT] l1 l2 awakeP awake_okP _ hst).mono ?_
  rintro e w8 h8
  obtain ⟨hb8, va, vn, vc, G, g, rfl, hG, hg, c0, c1⟩ := awake_told h8
  have n0 : ¬ G = w8.heap.size := by omega
  have n1 : ¬ w8.heap.size = G := by omega
  have n2 : ¬ g = w8.heap.size := by omega
  have n3 : ¬ w8.heap.size = g := by omega
  replace hb8 := Lib.hid (first_below hb7.out hb8)
  clear h8 hst
  go_wp2
  go_ret
  exact ⟨rfl, by first | exact hb8.out.alloc hb8.out.size _ | exact (hb8.out.alloc hb8.out.size _).drew⟩

end Go.Proofs.YtnojdchodmogbaaGreat
