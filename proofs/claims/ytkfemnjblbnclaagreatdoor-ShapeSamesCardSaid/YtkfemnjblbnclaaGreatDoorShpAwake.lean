/- The program answers at all: the statements' awake. -/
import Derived.Test.YtkfemnjblbnclaaGreatDoorShpOrder
import Derived.Lib.QuietBelow
namespace Go.Proofs.YtkfemnjblbnclaaGreatDoor
open Go.RowKit Go.Sort

def wholeT (s : List UInt8) : TermL := ⟨2, s, tyIL, []⟩
set_option maxRecDepth 100000 in
theorem whole_calls (s : ByteArray) (w : World) : Calls Tryz.prog 39 #[.string s] w fun e w' => e = .returned (.agg #[.int .i64 2, .string s, .string (bs tyIL), .string (bs [])]) ∧ Below w.heap.size w w' := by
  go_enter Tryz.func39, Tryz.ntmps39
  go_wp2
  refine bodyPost_ret (v := .agg #[.int .i64 2, .string s, .string (bs tyIL), .string (bs [])]) (by simp [results, Tryz.results39, go_sem]; exact ⟨rfl, rfl⟩) rfl ⟨rfl, box_below _ _⟩
abbrev wholeC (s : ByteArray) : Obj := .cells #[.int .i64 2, .string s, .string (bs tyIL), .string (bs [])] 23
theorem one_trm {W : World} {g : Nat} {s : List UInt8} (h : Blk W g 23 #[.int .i64 2, .string (bs s), .string (bs tyIL), .string (bs [])]) : TrmA W (some ⟨g, 0, none⟩) 1 1 [wholeT s] :=
  ⟨rfl, Nat.le_refl _, by decide, fun _ => ⟨g, 0, rfl, blk_lt h, fun j hj => by
    have e : j = 0 := by simp at hj; exact hj
    subst e
    exact ⟨(blk_cell h 0).trans rfl, (blk_cell h 1).trans rfl, (blk_cell h 2).trans rfl, (blk_cell h 3).trans rfl⟩⟩⟩
theorem aw_tab {W : World} {V G b1 b2 b3 : Nat} (hV : Blk W V 9 #[.string (bs [120])]) (h1 : Blk W b1 23 #[.int .i64 2, .string (bs [49, 48]), .string (bs tyIL), .string (bs [])]) (h2 : Blk W b2 23 #[.int .i64 2, .string (bs [57]), .string (bs tyIL), .string (bs [])])
    (h3 : Blk W b3 23 #[.int .i64 2, .string (bs [49, 48]), .string (bs tyIL), .string (bs [])]) (hG : Blk W G 51 #[.slice (some ⟨b1, 0, none⟩) 1 1, .slice (some ⟨b2, 0, none⟩) 1 1, .slice (some ⟨b3, 0, none⟩) 1 1]) :
    TabA W (.agg #[.slice (some ⟨V, 0, none⟩) 1 1, .slice (some ⟨G, 0, none⟩) 3 3]) [[120]] [[wholeT [49, 48]], [wholeT [57]], [wholeT [49, 48]]] := by
  refine ⟨_, _, _, _, _, _, rfl, ⟨rfl, Nat.le_refl _, by decide, fun _ => ⟨V, 0, rfl, blk_lt hV, fun j hj => ?_⟩⟩, ⟨rfl, Nat.le_refl _, by decide, fun _ => ⟨G, 0, rfl, blk_lt hG, fun j hj => ?_⟩⟩⟩
  · have e : j = 0 := by simp at hj; exact hj
    subst e
    exact (blk_cell hV 0).trans rfl
  · have e : j = 0 ∨ j = 1 ∨ j = 2 := by simp at hj; omega
    rcases e with rfl | rfl | rfl
    · exact ⟨_, _, (blk_cell hG 0).trans rfl, one_trm h1⟩
    · exact ⟨_, _, (blk_cell hG 1).trans rfl, one_trm h2⟩
    · exact ⟨_, _, (blk_cell hG 2).trans rfl, one_trm h3⟩
def awV : List (List UInt8) := [[120]]
def awR : List RowL := [[wholeT [49, 48]], [wholeT [57]], [wholeT [49, 48]]]
def awS : List RowL := [[wholeT [57]], [wholeT [49, 48]], [wholeT [49, 48]]]
def awD : List RowL := [[wholeT [57]], [wholeT [49, 48]]]
set_option maxRecDepth 100000 in
theorem aw_right : rightT awV awR = true := by kernel_rfl
set_option maxRecDepth 100000 in
theorem aw_right2 : rightT awV awS = true := by kernel_rfl
set_option maxRecDepth 100000 in
theorem aw_order : orderP (aheadP awV []) awR = awS := by kernel_rfl
set_option maxRecDepth 100000 in
theorem aw_dist : distP awS = awD := by kernel_rfl

theorem boxC {W : World} {g : Nat} {T : TypeId} {v : Value} {n : Nat} {cs : Array Value} (h : Blk W g T cs) (hn : cs[n]? = some v) : W.cell? ⟨g, n, none⟩ = some v := (blk_cell h n).trans hn
theorem bs_ok (l : List UInt8) (h : l.length ≤ 100) : (bs l).size ≤ maxLen := by
  have e : (bs l).size = l.length := rfl
  unfold maxLen
  omega
theorem whole_ok (s : List UInt8) (h : s.length ≤ 100) : okT (wholeT s) := ⟨⟨bs_ok s h, bs_ok tyIL (by decide), bs_ok [] (by decide)⟩, by show (Lit.int .i64 2).wf = true; decide⟩
theorem aw_okV : okV awV := fun x hx => by
  have e : x = [120] := by simpa [awV] using hx
  rw [e]; exact bs_ok _ (by decide)
theorem aw_okS : okRT awS := fun r hr t ht => by
  have e : t = wholeT [57] ∨ t = wholeT [49, 48] := by
    simp only [awS, List.mem_cons, List.not_mem_nil, or_false] at hr
    rcases hr with rfl | rfl | rfl <;> simp only [List.mem_cons, List.not_mem_nil, or_false] at ht
    · exact .inl ht
    · exact .inr ht
    · exact .inr ht
  rcases e with rfl | rfl
  · exact whole_ok _ (by decide)
  · exact whole_ok _ (by decide)
theorem aw_okR : okR awR := fun r hr t ht => by
  have e : t = wholeT [57] ∨ t = wholeT [49, 48] := by
    simp only [awR, List.mem_cons, List.not_mem_nil, or_false] at hr
    rcases hr with rfl | rfl | rfl <;> simp only [List.mem_cons, List.not_mem_nil, or_false] at ht
    · exact .inr ht
    · exact .inl ht
    · exact .inr ht
  rcases e with rfl | rfl
  · exact (whole_ok _ (by decide)).1
  · exact (whole_ok _ (by decide)).1
theorem no_keys (w : World) : KeyA w none 0 0 [] := ⟨rfl, Nat.le_refl _, Nat.zero_le _, fun h => absurd h (Nat.lt_irrefl _)⟩
theorem aw_ordered (w : World) (hg : Nm.Good w) (tv : Value) (ht : TabA w tv awV awR) : Calls Tryz.prog 23 #[tv, .slice none 0 0] w fun e w' => ∃ va vc g o rc g' o' c', e = .returned (.tuple #[.agg #[.slice va 1 vc, .slice (some ⟨g, o, none⟩) 3 rc], .int .i64 0]) ∧ TabA w' (.agg #[.slice va 1 vc, .slice (some ⟨g, o, none⟩) 3 rc]) awV awS ∧ Below w.heap.size w w' ∧ w'.cell? ⟨g, o, none⟩ = some (.slice (some ⟨g', o', none⟩) 1 c') ∧ TermAt w' g' o' (wholeT [57]) ∧ g < w'.heap.size ∧ g' < w'.heap.size ∧ 3 ≤ rc ∧ rc ≤ maxLen ∧ 1 ≤ c' ∧ c' ≤ maxLen := by
  have h := order_calls awV awR [] aw_okV aw_okR (fun x hx => absurd hx List.not_mem_nil) tv none 0 0 w hg ht (no_keys w)
  rw [aw_right, aw_order] at h
  refine h.mono ?_
  rintro e w' ⟨uv, rfl, ⟨va, n, vc, ra, m, rc, rfl, hT, hR⟩, hb⟩
  have e1 : n = 1 := hT.len.symm.trans rfl
  have e2 : m = 3 := hR.len.symm.trans rfl
  subst e1 e2
  obtain ⟨g, o, rfl, hg, _, hc⟩ := hR.cells (by omega)
  obtain ⟨a', c', h0, h1⟩ := hc 0 (by decide)
  obtain ⟨g', o', rfl, hg', _, hc'⟩ := h1.cells (by decide)
  refine ⟨va, vc, g, o, rc, g', o', c', rfl, ⟨_, _, _, _, _, _, rfl, hT.a, hR.a⟩, hb, h0, ?_, hg, hg', hR.cap, hR.most, h1.cap, h1.most⟩
  have := hc' 0 (by decide)
  rw [Nat.zero_mul, Nat.add_zero] at this
  exact this
theorem aw_distinct (w : World) (hg : Nm.Good w) (tv : Value) (ht : TabA w tv awV awS) : Calls Tryz.prog 26 #[tv] w fun e w' => ∃ va vc ra rc, e = .returned (.tuple #[.agg #[.slice va 1 vc, .slice ra 2 rc], .int .i64 0]) ∧ Below w.heap.size w w' := by
  have h := distinct_calls awV awS aw_okV aw_okS tv w hg ht
  rw [aw_right2, aw_dist] at h
  refine h.mono ?_
  rintro e w' ⟨uv, rfl, ⟨va, n, vc, ra, m, rc, rfl, hT, hR⟩, hb⟩
  have e1 : n = 1 := hT.len.symm.trans rfl
  have e2 : m = 2 := hR.len.symm.trans rfl
  subst e1 e2
  exact ⟨va, vc, ra, rc, rfl, hb⟩

set_option maxRecDepth 100000 in
set_option maxHeartbeats 4000000 in
theorem awake_calls (w : World) (hg : Nm.Good w) : Calls Tryz.prog 13 #[] w fun e w' => e = .returned (.bool true) ∧ Below w.heap.size w w' := by
  have HG := Lib.hid hg
  clear hg
  obtain ⟨V, hV⟩ : ∃ V, w.heap.size = V := ⟨_, rfl⟩
  have HV := Lib.hid hV
  obtain ⟨W0, hW0⟩ : ∃ W0, w.alloc (.cells #[.string ⟨#[120]⟩] 9) = W0 := ⟨_, rfl⟩
  have HB0 := Lib.hid (show Below w.heap.size w W0 by rw [← hW0]; exact box_below _ _)
  have HVB := Lib.hid (show Blk W0 V 9 #[.string ⟨#[120]⟩] by rw [← hW0, ← hV]; exact blk_new _ _ _)
  have HW0 := Lib.hid hW0
  clear hV hW0
  go_enter Tryz.func13, Tryz.ntmps13
  go_wp2_with fail
  rw [HW0.out, HV.out]
  refine (whole_calls _ _).mono ?_
  rintro e w1 ⟨rfl, hb1⟩
  obtain ⟨b1, hb1e⟩ : ∃ b1, w1.heap.size = b1 := ⟨_, rfl⟩
  obtain ⟨W1, hW1⟩ : ∃ W1, w1.alloc (wholeC ⟨#[49, 48]⟩) = W1 := ⟨_, rfl⟩
  have HE1 := Lib.hid hb1e
  have HW1 := Lib.hid hW1
  have H1 := Lib.hid (show Blk W1 b1 23 #[.int .i64 2, .string ⟨#[49, 48]⟩, .string (bs tyIL), .string (bs [])] by rw [← hW1, ← hb1e]; exact blk_new _ _ _)
  have HB1 := Lib.hid (show Below W0.heap.size W0 W1 by rw [← hW1]; exact fb2 hb1 (box_below _ _) (Nat.le_refl _))
  clear hb1 hb1e hW1
  go_wp2_with fail
  rw [HW1.out, HE1.out]
  refine (whole_calls _ _).mono ?_
  rintro e w2 ⟨rfl, hb2⟩
  obtain ⟨b2, hb2e⟩ : ∃ b2, w2.heap.size = b2 := ⟨_, rfl⟩
  obtain ⟨W2, hW2⟩ : ∃ W2, w2.alloc (wholeC ⟨#[57]⟩) = W2 := ⟨_, rfl⟩
  have HE2 := Lib.hid hb2e
  have HW2 := Lib.hid hW2
  have H2 := Lib.hid (show Blk W2 b2 23 #[.int .i64 2, .string ⟨#[57]⟩, .string (bs tyIL), .string (bs [])] by rw [← hW2, ← hb2e]; exact blk_new _ _ _)
  have HB2 := Lib.hid (show Below W1.heap.size W1 W2 by rw [← hW2]; exact fb2 hb2 (box_below _ _) (Nat.le_refl _))
  clear hb2 hb2e hW2
  go_wp2_with fail
  rw [HW2.out, HE2.out]
  refine (whole_calls _ _).mono ?_
  rintro e w3 ⟨rfl, hb3⟩
  obtain ⟨b3, hb3e⟩ : ∃ b3, w3.heap.size = b3 := ⟨_, rfl⟩
  obtain ⟨W3, hW3⟩ : ∃ W3, (w3.alloc (wholeC ⟨#[49, 48]⟩)).alloc (.cells #[.slice (some ⟨b1, 0, none⟩) 1 1, .slice (some ⟨b2, 0, none⟩) 1 1, .slice (some ⟨b3, 0, none⟩) 1 1] 51) = W3 := ⟨_, rfl⟩
  have HE3 := Lib.hid hb3e
  have HW3 := Lib.hid hW3
  have H3 := Lib.hid (show Blk W3 b3 23 #[.int .i64 2, .string ⟨#[49, 48]⟩, .string (bs tyIL), .string (bs [])] by rw [← hW3, ← hb3e]; exact blk_alloc (blk_new _ _ _) _)
  have HGR := Lib.hid (show Blk W3 (b3 + 1) 51 #[.slice (some ⟨b1, 0, none⟩) 1 1, .slice (some ⟨b2, 0, none⟩) 1 1, .slice (some ⟨b3, 0, none⟩) 1 1] by
    have := blk_new (w3.alloc (wholeC ⟨#[49, 48]⟩)) 51 #[.slice (some ⟨b1, 0, none⟩) 1 1, .slice (some ⟨b2, 0, none⟩) 1 1, .slice (some ⟨b3, 0, none⟩) 1 1]
    rw [show (w3.alloc (wholeC ⟨#[49, 48]⟩)).heap.size = b3 + 1 by rw [← hb3e]; simp, hW3] at this
    exact this)
  have HB3 := Lib.hid (show Below W2.heap.size W2 W3 by rw [← hW3]; exact fb2 (fb2 hb3 (box_below _ _) (Nat.le_refl _)) (box_below _ _) (Nat.le_refl _))
  clear hb3 hb3e hW3
  have HBW := Lib.hid (fb2 (fb2 (fb2 HB0.out HB1.out (Nat.le_refl _)) HB2.out (Nat.le_refl _)) HB3.out (Nat.le_refl _))
  have HTB := Lib.hid (aw_tab (W := W3) (blk_on (blk_on (blk_on HVB.out HB1.out (blk_lt HVB.out)) HB2.out (by have := blk_lt HVB.out; have := HB1.out.size; omega)) HB3.out (by have := blk_lt HVB.out; have := HB1.out.size; have := HB2.out.size; omega)) (blk_on (blk_on H1.out HB2.out (blk_lt H1.out)) HB3.out (by have := blk_lt H1.out; have := HB2.out.size; omega)) (blk_on H2.out HB3.out (blk_lt H2.out)) H3.out HGR.out)
  go_wp2_with fail
  rw [HE3.out, HW3.out]
  refine (aw_ordered W3 (HG.out.on HBW.out) _ HTB.out).mono ?_
  rintro e w4 ⟨va, vc, g, o, rc, g', o', c', rfl, htab, hb4, hc0, htm, hg4, hg4', l1, l2, l3, l4⟩
  have HT4 := Lib.hid htab
  have HBW4 := Lib.hid (fb2 HBW.out hb4 (Nat.le_refl _))
  have HC4 := Lib.hid hc0
  have HM4 := Lib.hid htm
  unfold maxLen at l2 l4
  clear hb4 htab hc0 htm HTB H1 H2 H3 HGR HB1 HB2 HB3 HB0 HVB
  obtain ⟨b5, hb5e⟩ : ∃ b5, w4.heap.size = b5 := ⟨_, rfl⟩
  obtain ⟨W5, hW5⟩ : ∃ W5, w4.alloc (.cells #[.slice va 1 vc, .slice (some ⟨g, o, none⟩) 3 rc] 31) = W5 := ⟨_, rfl⟩
  have HE5 := Lib.hid hb5e
  have HW5 := Lib.hid hW5
  have HX5 := Lib.hid (show Blk W5 b5 31 #[.slice va 1 vc, .slice (some ⟨g, o, none⟩) 3 rc] by rw [← hW5, ← hb5e]; exact blk_new _ _ _)
  have HB5 := Lib.hid (show Below w4.heap.size w4 W5 by rw [← hW5]; exact box_below _ _)
  have HBW5 := Lib.hid (fb2 HBW4.out HB5.out (Nat.le_refl _))
  clear hb5e hW5
  go_wp2_with fail
  rw [HE5.out, HW5.out]
  refine (aw_distinct W5 (HG.out.on HBW5.out) _ (HT4.out.on HB5.out)).mono ?_
  rintro e w6 ⟨va2, vc2, ra2, rc2, rfl, hb6⟩
  have HX6 := Lib.hid (blk_on HX5.out hb6 (blk_lt HX5.out))
  have HBW6 := Lib.hid (fb2 HBW5.out hb6 (Nat.le_refl _))
  obtain ⟨b7, hb7e⟩ : ∃ b7, w6.heap.size = b7 := ⟨_, rfl⟩
  obtain ⟨W7, hW7⟩ : ∃ W7, w6.alloc (.cells #[.slice va2 1 vc2, .slice ra2 2 rc2] 31) = W7 := ⟨_, rfl⟩
  have HE7 := Lib.hid hb7e
  have HW7 := Lib.hid hW7
  have hX7 : Blk W7 b7 31 #[.slice va2 1 vc2, .slice ra2 2 rc2] := by rw [← hW7, ← hb7e]; exact blk_new _ _ _
  have HB7 := Lib.hid (show Below w6.heap.size w6 W7 by rw [← hW7]; exact box_below _ _)
  have HBW7 := Lib.hid (fb2 HBW6.out HB7.out (Nat.le_refl _))
  have hs6 := hb6.size
  have hs5 := HB5.out.size
  have c1 : ∀ d os, (grow (redrawn W7 d) os).cell? ⟨b5, 1, none⟩ = some (.slice (some ⟨g, o, none⟩) 3 rc) := fun d os => cell_regrown ((blk_cell (blk_on HX6.out HB7.out (blk_lt HX6.out)) 1).trans rfl) d os
  have c2 : ∀ d os, (grow (redrawn W7 d) os).cell? ⟨b7, 1, none⟩ = some (.slice ra2 2 rc2) := fun d os => cell_regrown ((blk_cell hX7 1).trans rfl) d os
  have c3 : ∀ d os, (grow (redrawn W7 d) os).cell? ⟨g, o, none⟩ = some (.slice (some ⟨g', o', none⟩) 1 c') := fun d os => cell_regrown (keptC (keptC (keptC HC4.out HB5.out hg4) hb6 (by omega)) HB7.out (by omega)) d os
  have hm7 := ((HM4.out.on HB5.out hg4').on hb6 (by omega)).on HB7.out (by omega)
  obtain ⟨m0, m1, m2, m3⟩ := hm7
  have c4 : ∀ d os, (grow (redrawn W7 d) os).cell? ⟨g', o', none⟩ = some (.int .i64 2) := fun d os => cell_regrown m0 d os
  have c5 : ∀ d os, (grow (redrawn W7 d) os).cell? ⟨g', o' + 1, none⟩ = some (.string ⟨#[57]⟩) := fun d os => cell_regrown m1 d os
  have c6 : ∀ d os, (grow (redrawn W7 d) os).cell? ⟨g', o' + 2, none⟩ = some (.string (bs tyIL)) := fun d os => cell_regrown m2 d os
  have c7 : ∀ d os, (grow (redrawn W7 d) os).cell? ⟨g', o' + 3, none⟩ = some (.string (bs [])) := fun d os => cell_regrown m3 d os
  have cW : ∀ d os, Calls Tryz.prog 39 #[.string ⟨#[57]⟩] (grow (redrawn W7 d) os) fun e w'' => e = .returned (.agg #[.int .i64 2, .string ⟨#[57]⟩, .string (bs tyIL), .string (bs [])]) ∧ ∃ p : Regrown, w'' = grow (redrawn W7 p.d) p.os := fun d os => Calls.regrown_of (whole_calls _ _)
  clear hb6 hb7e hW7 hX7 m0 m1 m2 m3 HX5 HX6 HB5 HB7 HBW5 HBW6 HC4 HM4 HT4
  go_wp2_with fail
  rw [HE7.out, HW7.out]
  refine wp_region_quiet_below (by kernel_rfl) (by kernel_rfl) ?_
  repeat (quiet_step (exact cW _ _))
  refine wpQuiet_nil ?_
  intro _ hw'
  obtain ⟨⟨dq, osq⟩, hw''⟩ := hw'
  subst hw''
  go_wp2
  go_ret
  exact ⟨rfl, HBW7.out.trans ((below_regrown W7 dq osq).mono HBW7.out.size)⟩

end Go.Proofs.YtkfemnjblbnclaaGreatDoor
