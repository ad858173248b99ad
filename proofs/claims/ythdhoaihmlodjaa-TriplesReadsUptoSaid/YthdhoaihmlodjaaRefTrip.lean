/- Whether a triple is right, as a triple and as a pattern, by the document's own answers. -/
import Derived.Test.YthdhoaihmlodjaaTripCheck
import Derived.Test.YthdhoaihmlodjaaRefRight
namespace Go.Proofs.Ythdhoaihmlodjaa
open Go.RowKit

def kindstripB (a b c : Int) : Bool := (a == 1 || a == 3) && (b == 1 && (c == 1 || (c == 3 || c == 2)))
def kindspatB (a b c : Int) : Bool := (a == 1 || a == 4) && ((b == 1 || b == 4) && (c == 1 || (c == 2 || c == 4)))
theorem kinds_tripB {k k' k'' : Int} {x y z x' y' z' x'' y'' z'' : List UInt8} (h0 : rightL k x y z = true) (h1 : rightL k' x' y' z' = true) (h2 : rightL k'' x'' y'' z'' = true) : tripB ⟨⟨k, x, y, z⟩, ⟨k', x', y', z'⟩, ⟨k'', x'', y'', z''⟩⟩ = kindstripB k k' k'' := by
  unfold tripB checkB placeB TermL.right kindstripB
  rw [h0, h1, h2]; simp only [List.contains, List.elem_cons, List.elem_nil, Bool.and_true]
  cases k == 1 <;> cases k == 3 <;> cases k' == 1 <;> cases k'' == 1 <;> cases k'' == 3 <;> cases k'' == 2 <;> rfl
theorem kinds_patB {k k' k'' : Int} {x y z x' y' z' x'' y'' z'' : List UInt8} (h0 : rightL k x y z = true) (h1 : rightL k' x' y' z' = true) (h2 : rightL k'' x'' y'' z'' = true) : patB ⟨⟨k, x, y, z⟩, ⟨k', x', y', z'⟩, ⟨k'', x'', y'', z''⟩⟩ = kindspatB k k' k'' := by
  unfold patB checkB placeB TermL.right kindspatB
  rw [h0, h1, h2]; simp only [List.contains, List.elem_cons, List.elem_nil, Bool.and_true]
  cases k == 1 <;> cases k == 4 <;> cases k' == 1 <;> cases k' == 4 <;> cases k'' == 1 <;> cases k'' == 2 <;> cases k'' == 4 <;> rfl

set_option maxHeartbeats 2000000 in
theorem rTrip_calls (t : TripL) (ht : t.ok) (w : World) :
    Calls Try.prog 9 #[t.v] w fun e w' => e = .returned (.bool (tripB t)) ∧ Below w.heap.size w w' := by
  have HT := Lib.hid ht
  clear ht
  obtain ⟨⟨k, x, y, z⟩, ⟨k', x', y', z'⟩, ⟨k'', x'', y'', z''⟩⟩ := t
  simp only [TripL.v]
  cases h0 : rightL k x y z with
  | false =>
    have BAD := Lib.hid (show tripB ⟨⟨k, x, y, z⟩, ⟨k', x', y', z'⟩, ⟨k'', x'', y'', z''⟩⟩ = false from no_zero (no_right h0))
    have H0 := Lib.hid h0
    clear h0
    go_enter Try.func9, Try.ntmps9
    go_wp2_with fail
    refine (rRight_calls k (bs x) (bs y) (bs z) _ HT.out.1.1 HT.out.1.2.1 HT.out.1.2.2).mono ?_
    rintro e w1 ⟨rfl, hb1⟩
    simp only [bs_data]
    rw [H0.out]
    obtain ⟨hc, hf⟩ := bcell hb1
    have hz : w.heap.size < w1.heap.size := by have := hb1.size; simp at this; omega
    go_wp2
    go_ret
    exact ⟨by rw [BAD.out]; rfl, one_box hb1⟩
  | true =>
    have H0 := Lib.hid h0
    clear h0
    cases h1 : rightL k' x' y' z' with
    | false =>
      have BAD := Lib.hid (show tripB ⟨⟨k, x, y, z⟩, ⟨k', x', y', z'⟩, ⟨k'', x'', y'', z''⟩⟩ = false from no_one (no_right h1))
      have H1 := Lib.hid h1
      clear h1
      go_enter Try.func9, Try.ntmps9
      go_wp2_with fail
      refine (rRight_calls k (bs x) (bs y) (bs z) _ HT.out.1.1 HT.out.1.2.1 HT.out.1.2.2).mono ?_
      rintro e w1 ⟨rfl, hb1⟩
      simp only [bs_data]
      rw [H0.out]
      obtain ⟨hc, hf⟩ := bcell hb1
      have hz : w.heap.size < w1.heap.size := by have := hb1.size; simp at this; omega
      go_wp2_with fail
      refine (rRight_calls k' (bs x') (bs y') (bs z') _ HT.out.2.1.1 HT.out.2.1.2.1 HT.out.2.1.2.2).mono ?_
      rintro e w2 ⟨rfl, hb2⟩
      simp only [bs_data]
      rw [H1.out]
      replace hb2 := bnext hb1 hb2
      clear hc hf hz hb1
      obtain ⟨hc, hf⟩ := bcell hb2
      have hz : w.heap.size < w2.heap.size := by have := hb2.size; simp at this; omega
      go_wp2
      go_ret
      exact ⟨by rw [BAD.out]; rfl, one_box hb2⟩
    | true =>
      have H1 := Lib.hid h1
      clear h1
      cases h2 : rightL k'' x'' y'' z'' with
      | false =>
        have BAD := Lib.hid (show tripB ⟨⟨k, x, y, z⟩, ⟨k', x', y', z'⟩, ⟨k'', x'', y'', z''⟩⟩ = false from no_two (no_right h2))
        have H2 := Lib.hid h2
        clear h2
        go_enter Try.func9, Try.ntmps9
        go_wp2_with fail
        refine (rRight_calls k (bs x) (bs y) (bs z) _ HT.out.1.1 HT.out.1.2.1 HT.out.1.2.2).mono ?_
        rintro e w1 ⟨rfl, hb1⟩
        simp only [bs_data]
        rw [H0.out]
        obtain ⟨hc, hf⟩ := bcell hb1
        have hz : w.heap.size < w1.heap.size := by have := hb1.size; simp at this; omega
        go_wp2_with fail
        refine (rRight_calls k' (bs x') (bs y') (bs z') _ HT.out.2.1.1 HT.out.2.1.2.1 HT.out.2.1.2.2).mono ?_
        rintro e w2 ⟨rfl, hb2⟩
        simp only [bs_data]
        rw [H1.out]
        replace hb2 := bnext hb1 hb2
        clear hc hf hz hb1
        obtain ⟨hc, hf⟩ := bcell hb2
        have hz : w.heap.size < w2.heap.size := by have := hb2.size; simp at this; omega
        go_wp2_with fail
        refine (rRight_calls k'' (bs x'') (bs y'') (bs z'') _ HT.out.2.2.1 HT.out.2.2.2.1 HT.out.2.2.2.2).mono ?_
        rintro e w3 ⟨rfl, hb3⟩
        simp only [bs_data]
        rw [H2.out]
        replace hb3 := bnext hb2 hb3
        clear hc hf hz hb2
        obtain ⟨hc, hf⟩ := bcell hb3
        have hz : w.heap.size < w3.heap.size := by have := hb3.size; simp at this; omega
        go_wp2
        go_ret
        exact ⟨by rw [BAD.out]; rfl, one_box hb3⟩
      | true =>
        have H2 := Lib.hid h2
        clear h2
        have GOOD := Lib.hid (show tripB ⟨⟨k, x, y, z⟩, ⟨k', x', y', z'⟩, ⟨k'', x'', y'', z''⟩⟩ = kindstripB k k' k'' from kinds_tripB H0.out H1.out H2.out)
        go_enter Try.func9, Try.ntmps9
        go_wp2_with fail
        refine (rRight_calls k (bs x) (bs y) (bs z) _ HT.out.1.1 HT.out.1.2.1 HT.out.1.2.2).mono ?_
        rintro e w1 ⟨rfl, hb1⟩
        simp only [bs_data]
        rw [H0.out]
        obtain ⟨hc, hf⟩ := bcell hb1
        have hz : w.heap.size < w1.heap.size := by have := hb1.size; simp at this; omega
        go_wp2_with fail
        refine (rRight_calls k' (bs x') (bs y') (bs z') _ HT.out.2.1.1 HT.out.2.1.2.1 HT.out.2.1.2.2).mono ?_
        rintro e w2 ⟨rfl, hb2⟩
        simp only [bs_data]
        rw [H1.out]
        replace hb2 := bnext hb1 hb2
        clear hc hf hz hb1
        obtain ⟨hc, hf⟩ := bcell hb2
        have hz : w.heap.size < w2.heap.size := by have := hb2.size; simp at this; omega
        go_wp2_with fail
        refine (rRight_calls k'' (bs x'') (bs y'') (bs z'') _ HT.out.2.2.1 HT.out.2.2.2.1 HT.out.2.2.2.2).mono ?_
        rintro e w3 ⟨rfl, hb3⟩
        simp only [bs_data]
        rw [H2.out]
        replace hb3 := bnext hb2 hb3
        clear hc hf hz hb2
        obtain ⟨hc, hf⟩ := bcell hb3
        have hz : w.heap.size < w3.heap.size := by have := hb3.size; simp at this; omega
        go_wp2
        all_goals
          go_ret
          exact ⟨by rw [GOOD.out]; exact ret_bool (by simp [kindstripB, Bool.or_assoc, *]), one_box hb3⟩

set_option maxHeartbeats 2000000 in
theorem rPat_calls (t : TripL) (ht : t.ok) (w : World) :
    Calls Try.prog 10 #[t.v] w fun e w' => e = .returned (.bool (patB t)) ∧ Below w.heap.size w w' := by
  have HT := Lib.hid ht
  clear ht
  obtain ⟨⟨k, x, y, z⟩, ⟨k', x', y', z'⟩, ⟨k'', x'', y'', z''⟩⟩ := t
  simp only [TripL.v]
  cases h0 : rightL k x y z with
  | false =>
    have BAD := Lib.hid (show patB ⟨⟨k, x, y, z⟩, ⟨k', x', y', z'⟩, ⟨k'', x'', y'', z''⟩⟩ = false from no_zero (no_right h0))
    have H0 := Lib.hid h0
    clear h0
    go_enter Try.func10, Try.ntmps10
    go_wp2_with fail
    refine (rRight_calls k (bs x) (bs y) (bs z) _ HT.out.1.1 HT.out.1.2.1 HT.out.1.2.2).mono ?_
    rintro e w1 ⟨rfl, hb1⟩
    simp only [bs_data]
    rw [H0.out]
    obtain ⟨hc, hf⟩ := bcell hb1
    have hz : w.heap.size < w1.heap.size := by have := hb1.size; simp at this; omega
    go_wp2
    go_ret
    exact ⟨by rw [BAD.out]; rfl, one_box hb1⟩
  | true =>
    have H0 := Lib.hid h0
    clear h0
    cases h1 : rightL k' x' y' z' with
    | false =>
      have BAD := Lib.hid (show patB ⟨⟨k, x, y, z⟩, ⟨k', x', y', z'⟩, ⟨k'', x'', y'', z''⟩⟩ = false from no_one (no_right h1))
      have H1 := Lib.hid h1
      clear h1
      go_enter Try.func10, Try.ntmps10
      go_wp2_with fail
      refine (rRight_calls k (bs x) (bs y) (bs z) _ HT.out.1.1 HT.out.1.2.1 HT.out.1.2.2).mono ?_
      rintro e w1 ⟨rfl, hb1⟩
      simp only [bs_data]
      rw [H0.out]
      obtain ⟨hc, hf⟩ := bcell hb1
      have hz : w.heap.size < w1.heap.size := by have := hb1.size; simp at this; omega
      go_wp2_with fail
      refine (rRight_calls k' (bs x') (bs y') (bs z') _ HT.out.2.1.1 HT.out.2.1.2.1 HT.out.2.1.2.2).mono ?_
      rintro e w2 ⟨rfl, hb2⟩
      simp only [bs_data]
      rw [H1.out]
      replace hb2 := bnext hb1 hb2
      clear hc hf hz hb1
      obtain ⟨hc, hf⟩ := bcell hb2
      have hz : w.heap.size < w2.heap.size := by have := hb2.size; simp at this; omega
      go_wp2
      go_ret
      exact ⟨by rw [BAD.out]; rfl, one_box hb2⟩
    | true =>
      have H1 := Lib.hid h1
      clear h1
      cases h2 : rightL k'' x'' y'' z'' with
      | false =>
        have BAD := Lib.hid (show patB ⟨⟨k, x, y, z⟩, ⟨k', x', y', z'⟩, ⟨k'', x'', y'', z''⟩⟩ = false from no_two (no_right h2))
        have H2 := Lib.hid h2
        clear h2
        go_enter Try.func10, Try.ntmps10
        go_wp2_with fail
        refine (rRight_calls k (bs x) (bs y) (bs z) _ HT.out.1.1 HT.out.1.2.1 HT.out.1.2.2).mono ?_
        rintro e w1 ⟨rfl, hb1⟩
        simp only [bs_data]
        rw [H0.out]
        obtain ⟨hc, hf⟩ := bcell hb1
        have hz : w.heap.size < w1.heap.size := by have := hb1.size; simp at this; omega
        go_wp2_with fail
        refine (rRight_calls k' (bs x') (bs y') (bs z') _ HT.out.2.1.1 HT.out.2.1.2.1 HT.out.2.1.2.2).mono ?_
        rintro e w2 ⟨rfl, hb2⟩
        simp only [bs_data]
        rw [H1.out]
        replace hb2 := bnext hb1 hb2
        clear hc hf hz hb1
        obtain ⟨hc, hf⟩ := bcell hb2
        have hz : w.heap.size < w2.heap.size := by have := hb2.size; simp at this; omega
        go_wp2_with fail
        refine (rRight_calls k'' (bs x'') (bs y'') (bs z'') _ HT.out.2.2.1 HT.out.2.2.2.1 HT.out.2.2.2.2).mono ?_
        rintro e w3 ⟨rfl, hb3⟩
        simp only [bs_data]
        rw [H2.out]
        replace hb3 := bnext hb2 hb3
        clear hc hf hz hb2
        obtain ⟨hc, hf⟩ := bcell hb3
        have hz : w.heap.size < w3.heap.size := by have := hb3.size; simp at this; omega
        go_wp2
        go_ret
        exact ⟨by rw [BAD.out]; rfl, one_box hb3⟩
      | true =>
        have H2 := Lib.hid h2
        clear h2
        have GOOD := Lib.hid (show patB ⟨⟨k, x, y, z⟩, ⟨k', x', y', z'⟩, ⟨k'', x'', y'', z''⟩⟩ = kindspatB k k' k'' from kinds_patB H0.out H1.out H2.out)
        go_enter Try.func10, Try.ntmps10
        go_wp2_with fail
        refine (rRight_calls k (bs x) (bs y) (bs z) _ HT.out.1.1 HT.out.1.2.1 HT.out.1.2.2).mono ?_
        rintro e w1 ⟨rfl, hb1⟩
        simp only [bs_data]
        rw [H0.out]
        obtain ⟨hc, hf⟩ := bcell hb1
        have hz : w.heap.size < w1.heap.size := by have := hb1.size; simp at this; omega
        go_wp2_with fail
        refine (rRight_calls k' (bs x') (bs y') (bs z') _ HT.out.2.1.1 HT.out.2.1.2.1 HT.out.2.1.2.2).mono ?_
        rintro e w2 ⟨rfl, hb2⟩
        simp only [bs_data]
        rw [H1.out]
        replace hb2 := bnext hb1 hb2
        clear hc hf hz hb1
        obtain ⟨hc, hf⟩ := bcell hb2
        have hz : w.heap.size < w2.heap.size := by have := hb2.size; simp at this; omega
        go_wp2_with fail
        refine (rRight_calls k'' (bs x'') (bs y'') (bs z'') _ HT.out.2.2.1 HT.out.2.2.2.1 HT.out.2.2.2.2).mono ?_
        rintro e w3 ⟨rfl, hb3⟩
        simp only [bs_data]
        rw [H2.out]
        replace hb3 := bnext hb2 hb3
        clear hc hf hz hb2
        obtain ⟨hc, hf⟩ := bcell hb3
        have hz : w.heap.size < w3.heap.size := by have := hb3.size; simp at this; omega
        go_wp2
        all_goals
          go_ret
          exact ⟨by rw [GOOD.out]; exact ret_bool (by simp [kindspatB, Bool.or_assoc, *]), one_box hb3⟩

end Go.Proofs.Ythdhoaihmlodjaa
