/- GrpAwake, RefLeaf, RefPlain, put together. -/
import Derived.Test.YtdnfaoanaehjhaaGreatDoorGrpGroup
import Derived.Lib.QuietBelow
import Derived.Test.YtdnfaoanaehjhaaGreatDoorH4

/- The program answers at all: the statements' awake. -/
namespace Go.Proofs.YtdnfaoanaehjhaaGreatDoor
open Go.RowKit Go.Sort

def wholeT (s : List UInt8) : TermL := ⟨2, s, tyIL, []⟩
set_option maxRecDepth 100000 in
theorem whole_calls (s : ByteArray) (w : World) : Calls Tryz.prog 25 #[.string s] w fun e w' => e = .returned (.agg #[.int .i64 2, .string s, .string (bs tyIL), .string (bs [])]) ∧ Below w.heap.size w w' := by
  go_enter Tryz.func25, Tryz.ntmps25
  go_wp2
  refine bodyPost_ret (v := .agg #[.int .i64 2, .string s, .string (bs tyIL), .string (bs [])]) (by simp [results, Tryz.results25, go_sem]; exact ⟨rfl, rfl⟩) rfl ⟨rfl, box_below _ _⟩
abbrev wholeC (s : ByteArray) : Obj := .cells #[.int .i64 2, .string s, .string (bs tyIL), .string (bs [])] 37
theorem one_trm {W : World} {g : Nat} {s : List UInt8} (h : Blk W g 37 #[.int .i64 2, .string (bs s), .string (bs tyIL), .string (bs [])]) : TrmA W (some ⟨g, 0, none⟩) 1 1 [wholeT s] :=
  ⟨rfl, Nat.le_refl _, by decide, fun _ => ⟨g, 0, rfl, blk_lt h, fun j hj => by
    have e : j = 0 := by simp at hj; exact hj
    subst e
    exact ⟨(blk_cell h 0).trans rfl, (blk_cell h 1).trans rfl, (blk_cell h 2).trans rfl, (blk_cell h 3).trans rfl⟩⟩⟩
theorem aw_tab {W : World} {V G b1 b2 : Nat} (hV : Blk W V 9 #[.string (bs [120])]) (h1 : Blk W b1 37 #[.int .i64 2, .string (bs [49]), .string (bs tyIL), .string (bs [])]) (h2 : Blk W b2 37 #[.int .i64 2, .string (bs [51]), .string (bs tyIL), .string (bs [])])
    (hG : Blk W G 35 #[.slice (some ⟨b1, 0, none⟩) 1 1, .slice (some ⟨b2, 0, none⟩) 1 1]) :
    TabA W (.agg #[.slice (some ⟨V, 0, none⟩) 1 1, .slice (some ⟨G, 0, none⟩) 2 2]) [[120]] [[wholeT [49]], [wholeT [51]]] := by
  refine ⟨_, _, _, _, _, _, rfl, ⟨rfl, Nat.le_refl _, by decide, fun _ => ⟨V, 0, rfl, blk_lt hV, fun j hj => ?_⟩⟩, ⟨rfl, Nat.le_refl _, by decide, fun _ => ⟨G, 0, rfl, blk_lt hG, fun j hj => ?_⟩⟩⟩
  · have e : j = 0 := by simp at hj; exact hj
    subst e
    exact (blk_cell hV 0).trans rfl
  · have e : j = 0 ∨ j = 1 := by simp at hj; omega
    rcases e with rfl | rfl
    · exact ⟨_, _, (blk_cell hG 0).trans rfl, one_trm h1⟩
    · exact ⟨_, _, (blk_cell hG 1).trans rfl, one_trm h2⟩
def awV : List (List UInt8) := [[120]]
def awR : List RowL := [[wholeT [49]], [wholeT [51]]]
def awL : List AggL := [⟨2, [120], [110]⟩]
set_option maxRecDepth 100000 in
theorem aw_check : checkG awV awR [] awL = 0 := by kernel_rfl
set_option maxRecDepth 100000 in
theorem aw_group : groupP awV [] awL awR = [[wholeT [52]]] := by kernel_rfl
theorem boxC {W : World} {g : Nat} {T : TypeId} {v : Value} {n : Nat} {cs : Array Value} (h : Blk W g T cs) (hn : cs[n]? = some v) : W.cell? ⟨g, n, none⟩ = some v := (blk_cell h n).trans hn
theorem bs_ok (l : List UInt8) (h : l.length ≤ 100) : (bs l).size ≤ maxLen := by
  have e : (bs l).size = l.length := rfl
  unfold maxLen
  omega
theorem whole_ok (s : List UInt8) (h : s.length ≤ 100) : okT (wholeT s) := ⟨⟨bs_ok s h, bs_ok tyIL (by decide), bs_ok [] (by decide)⟩, by show (Lit.int .i64 2).wf = true; decide⟩
theorem aw_okV : okV awV := fun x hx => by
  have e : x = [120] := by simpa [awV] using hx
  rw [e]; exact bs_ok _ (by decide)
theorem aw_okR : okRT awR := fun r hr t ht => by
  have e : t = wholeT [49] ∨ t = wholeT [51] := by
    simp only [awR, List.mem_cons, List.not_mem_nil, or_false] at hr
    rcases hr with rfl | rfl <;> simp only [List.mem_cons, List.not_mem_nil, or_false] at ht
    · exact .inl ht
    · exact .inr ht
  rcases e with rfl | rfl
  · exact whole_ok _ (by decide)
  · exact whole_ok _ (by decide)
theorem aw_okL : ∀ g ∈ awL, g.ok := fun g hg => by
  have e : g = ⟨2, [120], [110]⟩ := by simpa [awL] using hg
  subst e
  exact ⟨bs_ok _ (by decide), bs_ok _ (by decide)⟩
theorem aw_aggs {W : World} {g : Nat} {T : TypeId} (h : Blk W g T #[.int .i64 2, .string (bs [120]), .string (bs [110])]) : AgA W (some ⟨g, 0, none⟩) 1 1 awL := agA_blk (G := awL) h rfl (by decide)
theorem no_txts (w : World) : TxtA w none 0 0 [] := ⟨rfl, Nat.le_refl _, Nat.zero_le _, fun h => absurd h (Nat.lt_irrefl _)⟩
theorem aw_grouped (w : World) (hg : Nm.Good w) (tv : Value) (ht : TabA w tv awV awR) (la : Option Addr) (hl : AgA w la 1 1 awL) : Calls Tryz.prog 14 #[tv, .slice none 0 0, .slice la 1 1] w fun e w' => ∃ va vc g o rc g' o' c', e = .returned (.tuple #[.agg #[.slice va 1 vc, .slice (some ⟨g, o, none⟩) 1 rc], .int .i64 0]) ∧ Below w.heap.size w w' ∧ w'.cell? ⟨g, o, none⟩ = some (.slice (some ⟨g', o', none⟩) 1 c') ∧ TermAt w' g' o' (wholeT [52]) ∧ g < w'.heap.size ∧ g' < w'.heap.size ∧ 1 ≤ rc ∧ rc ≤ maxLen ∧ 1 ≤ c' ∧ c' ≤ maxLen := by
  have h := group_yes awV awR [] awL aw_okV aw_okR (fun x hx => absurd hx List.not_mem_nil) aw_okL aw_check tv none 0 0 la 1 1 w hg ht (no_txts w) hl
  rw [aw_group] at h
  refine h.mono ?_
  rintro e w' ⟨uv, rfl, ⟨va, n, vc, ra, m, rc, rfl, hT, hR⟩, hb⟩
  have e1 : n = 1 := hT.len.symm.trans rfl
  have e2 : m = 1 := hR.len.symm.trans rfl
  subst e1 e2
  obtain ⟨g, o, rfl, hg, _, hc⟩ := hR.cells (by omega)
  obtain ⟨a', c', h0, h1⟩ := hc 0 (by decide)
  obtain ⟨g', o', rfl, hg', _, hc'⟩ := h1.cells (by decide)
  refine ⟨va, vc, g, o, rc, g', o', c', rfl, hb, h0, ?_, hg, hg', hR.cap, hR.most, h1.cap, h1.most⟩
  have := hc' 0 (by decide)
  rw [Nat.zero_mul, Nat.add_zero] at this
  exact this

set_option maxRecDepth 100000 in
set_option maxHeartbeats 4000000 in
theorem awake_calls (w : World) (hg : Nm.Good w) : Calls Tryz.prog 10 #[] w fun e w' => e = .returned (.bool true) ∧ Below w.heap.size w w' := by
  have HG := Lib.hid hg
  clear hg
  obtain ⟨V, hV⟩ : ∃ V, w.heap.size = V := ⟨_, rfl⟩
  have HV := Lib.hid hV
  obtain ⟨W0, hW0⟩ : ∃ W0, w.alloc (.cells #[.string ⟨#[120]⟩] 9) = W0 := ⟨_, rfl⟩
  have HB0 := Lib.hid (show Below w.heap.size w W0 by rw [← hW0]; exact box_below _ _)
  have HVB := Lib.hid (show Blk W0 V 9 #[.string ⟨#[120]⟩] by rw [← hW0, ← hV]; exact blk_new _ _ _)
  have HW0 := Lib.hid hW0
  clear hV hW0
  go_enter Tryz.func10, Tryz.ntmps10
  go_wp2_with fail
  rw [HW0.out, HV.out]
  refine (whole_calls _ _).mono ?_
  rintro e w1 ⟨rfl, hb1⟩
  obtain ⟨b1, hb1e⟩ : ∃ b1, w1.heap.size = b1 := ⟨_, rfl⟩
  obtain ⟨W1, hW1⟩ : ∃ W1, w1.alloc (wholeC ⟨#[49]⟩) = W1 := ⟨_, rfl⟩
  have HE1 := Lib.hid hb1e
  have HW1 := Lib.hid hW1
  have H1 := Lib.hid (show Blk W1 b1 37 #[.int .i64 2, .string ⟨#[49]⟩, .string (bs tyIL), .string (bs [])] by rw [← hW1, ← hb1e]; exact blk_new _ _ _)
  have HB1 := Lib.hid (show Below W0.heap.size W0 W1 by rw [← hW1]; exact fb2 hb1 (box_below _ _) (Nat.le_refl _))
  clear hb1 hb1e hW1
  go_wp2_with fail
  rw [HW1.out, HE1.out]
  refine (whole_calls _ _).mono ?_
  rintro e w2 ⟨rfl, hb2⟩
  obtain ⟨b2, hb2e⟩ : ∃ b2, w2.heap.size = b2 := ⟨_, rfl⟩
  obtain ⟨W3, hW3⟩ : ∃ W3, (((w2.alloc (wholeC ⟨#[51]⟩)).alloc (.cells #[.slice (some ⟨b1, 0, none⟩) 1 1, .slice (some ⟨b2, 0, none⟩) 1 1] 35)).alloc (.cells #[.slice (some ⟨V, 0, none⟩) 1 1, .slice (some ⟨b2 + 1, 0, none⟩) 2 2] 25)).alloc (.cells #[.int .i64 2, .string ⟨#[120]⟩, .string ⟨#[110]⟩] 41) = W3 := ⟨_, rfl⟩
  have HE2 := Lib.hid hb2e
  have HW3 := Lib.hid hW3
  have H2 := Lib.hid (show Blk W3 b2 37 #[.int .i64 2, .string ⟨#[51]⟩, .string (bs tyIL), .string (bs [])] by rw [← hW3, ← hb2e]; exact blk_alloc (blk_alloc (blk_alloc (blk_new _ _ _) _) _) _)
  have HGR := Lib.hid (show Blk W3 (b2 + 1) 35 #[.slice (some ⟨b1, 0, none⟩) 1 1, .slice (some ⟨b2, 0, none⟩) 1 1] by
    have := blk_alloc (blk_alloc (blk_new (w2.alloc (wholeC ⟨#[51]⟩)) 35 #[.slice (some ⟨b1, 0, none⟩) 1 1, .slice (some ⟨b2, 0, none⟩) 1 1]) (.cells #[.slice (some ⟨V, 0, none⟩) 1 1, .slice (some ⟨b2 + 1, 0, none⟩) 2 2] 25)) (.cells #[.int .i64 2, .string ⟨#[120]⟩, .string ⟨#[110]⟩] 41)
    rw [show (w2.alloc (wholeC ⟨#[51]⟩)).heap.size = b2 + 1 by rw [← hb2e]; simp, hW3] at this
    exact this)
  have HAG := Lib.hid (show Blk W3 (b2 + 3) 41 #[.int .i64 2, .string ⟨#[120]⟩, .string ⟨#[110]⟩] by
    have := blk_new (((w2.alloc (wholeC ⟨#[51]⟩)).alloc (.cells #[.slice (some ⟨b1, 0, none⟩) 1 1, .slice (some ⟨b2, 0, none⟩) 1 1] 35)).alloc (.cells #[.slice (some ⟨V, 0, none⟩) 1 1, .slice (some ⟨b2 + 1, 0, none⟩) 2 2] 25)) 41 #[.int .i64 2, .string ⟨#[120]⟩, .string ⟨#[110]⟩]
    rw [World.size_alloc, World.size_alloc, World.size_alloc, hb2e, hW3] at this
    exact this)
  have HB3 := Lib.hid (show Below W1.heap.size W1 W3 by rw [← hW3]; exact fb2 (fb2 (fb2 (fb2 hb2 (box_below _ _) (Nat.le_refl _)) (box_below _ _) (Nat.le_refl _)) (box_below _ _) (Nat.le_refl _)) (box_below _ _) (Nat.le_refl _))
  clear hb2 hb2e hW3
  have HBW := Lib.hid (fb2 (fb2 HB0.out HB1.out (Nat.le_refl _)) HB3.out (Nat.le_refl _))
  have HTB := Lib.hid (aw_tab (W := W3) (blk_on (blk_on HVB.out HB1.out (blk_lt HVB.out)) HB3.out (by have := blk_lt HVB.out; have := HB1.out.size; omega)) (blk_on H1.out HB3.out (blk_lt H1.out)) H2.out HGR.out)
  have HAA := Lib.hid (aw_aggs HAG.out)
  go_wp2_with fail
  rw [HE2.out, HW3.out]
  refine (aw_grouped W3 (HG.out.on HBW.out) _ HTB.out _ HAA.out).mono ?_
  rintro e w6 ⟨va, vc, g, o, rc, g', o', c', rfl, hb6, hc0, htm, hg4, hg4', l1, l2, l3, l4⟩
  have HBW6 := Lib.hid (fb2 HBW.out hb6 (Nat.le_refl _))
  have HC4 := Lib.hid hc0
  have HM4 := Lib.hid htm
  unfold maxLen at l2 l4
  clear hb6 hc0 htm HTB H1 H2 HGR HB1 HB3 HB0 HVB HAG HAA
  obtain ⟨b7, hb7e⟩ : ∃ b7, w6.heap.size = b7 := ⟨_, rfl⟩
  obtain ⟨W7, hW7⟩ : ∃ W7, w6.alloc (.cells #[.slice va 1 vc, .slice (some ⟨g, o, none⟩) 1 rc] 25) = W7 := ⟨_, rfl⟩
  have HE7 := Lib.hid hb7e
  have HW7 := Lib.hid hW7
  have hX7 : Blk W7 b7 25 #[.slice va 1 vc, .slice (some ⟨g, o, none⟩) 1 rc] := by rw [← hW7, ← hb7e]; exact blk_new _ _ _
  have HB7 := Lib.hid (show Below w6.heap.size w6 W7 by rw [← hW7]; exact box_below _ _)
  have HBW7 := Lib.hid (fb2 HBW6.out HB7.out (Nat.le_refl _))
  have c1 : ∀ d os, (grow (redrawn W7 d) os).cell? ⟨b7, 1, none⟩ = some (.slice (some ⟨g, o, none⟩) 1 rc) := fun d os => cell_regrown ((blk_cell hX7 1).trans rfl) d os
  have c3 : ∀ d os, (grow (redrawn W7 d) os).cell? ⟨g, o, none⟩ = some (.slice (some ⟨g', o', none⟩) 1 c') := fun d os => cell_regrown (keptC HC4.out HB7.out hg4) d os
  have hm7 := HM4.out.on HB7.out hg4'
  obtain ⟨m0, m1, m2, m3⟩ := hm7
  have c4 : ∀ d os, (grow (redrawn W7 d) os).cell? ⟨g', o', none⟩ = some (.int .i64 2) := fun d os => cell_regrown m0 d os
  have c5 : ∀ d os, (grow (redrawn W7 d) os).cell? ⟨g', o' + 1, none⟩ = some (.string ⟨#[52]⟩) := fun d os => cell_regrown m1 d os
  have c6 : ∀ d os, (grow (redrawn W7 d) os).cell? ⟨g', o' + 2, none⟩ = some (.string (bs tyIL)) := fun d os => cell_regrown m2 d os
  have c7 : ∀ d os, (grow (redrawn W7 d) os).cell? ⟨g', o' + 3, none⟩ = some (.string (bs [])) := fun d os => cell_regrown m3 d os
  have cW : ∀ d os, Calls Tryz.prog 25 #[.string ⟨#[52]⟩] (grow (redrawn W7 d) os) fun e w'' => e = .returned (.agg #[.int .i64 2, .string ⟨#[52]⟩, .string (bs tyIL), .string (bs [])]) ∧ ∃ p : Regrown, w'' = grow (redrawn W7 p.d) p.os := fun d os => Calls.regrown_of (whole_calls _ _)
  clear hb7e hW7 hX7 m0 m1 m2 m3 HB7 HC4 HM4
  go_wp2_with fail
  rw [HE7.out, HW7.out]
  refine wp_region_quiet_below (by kernel_rfl) (by kernel_rfl) ?_
  repeat (quiet_step (exact cW _ _))
  refine wpQuiet_nil ?_
  intro _ hw'
  obtain ⟨⟨dq, osq⟩, hw''⟩ := hw'
  subst hw''
  go_wp2
  go_ret
  exact ⟨rfl, HBW7.out.trans ((below_regrown W7 dq osq).mono HBW7.out.size)⟩

end Go.Proofs.YtdnfaoanaehjhaaGreatDoor

/- What the document's own answers for bytes and texts come to (names, IRIs, languages, literals' texts): plain tests of all bytes, for every text. -/
namespace Go.Proofs.YtdnfaoanaehjhaaGreatDoor
open Go.RowKit

def hasB (b : Int) (l : List UInt8) : Bool := l.any fun c => decide ((c.toNat : Int) = b)
def allB (p : Int → Bool) (l : List UInt8) : Bool := l.all fun c => p (c.toNat : Int)
theorem hasB_step (b : Int) (l : List UInt8) (k : Nat) (h : k < l.length) : hasB b (l.drop k) = (decide ((l[k].toNat : Int) = b) || hasB b (l.drop (k + 1))) := by
  rw [List.drop_eq_getElem_cons h]; rfl
theorem hasB_end (b : Int) (l : List UInt8) (k : Nat) (h : l.length ≤ k) : hasB b (l.drop k) = false := by
  rw [List.drop_eq_nil_of_le h]; rfl
theorem allB_step (p : Int → Bool) (l : List UInt8) (k : Nat) (h : k < l.length) : allB p (l.drop k) = (p (l[k].toNat : Int) && allB p (l.drop (k + 1))) := by
  rw [List.drop_eq_getElem_cons h]; rfl
theorem allB_end (p : Int → Bool) (l : List UInt8) (k : Nat) (h : l.length ≤ k) : allB p (l.drop k) = true := by
  rw [List.drop_eq_nil_of_le h]; rfl
theorem get_list (s : ByteArray) (k : Nat) (h : k < s.size) : (s.data.toList[k]'(by simpa using h)) = s[k]'h := by simp; rfl

def betw (f b t : Int) : Bool := decide (f ≤ b ∧ b ≤ t)

set_option maxHeartbeats 400000 in
theorem rBetween_calls (b f t : Int) (w : World) :
    Calls Tryz.prog 80 #[.int .u8 b, .int .u8 f, .int .u8 t] w fun e w' => e = .returned (.bool (betw f b t)) ∧ w' = w := by
  by_cases h1 : f ≤ b <;> by_cases h2 : b ≤ t <;> go_enter Tryz.func80, Tryz.ntmps80 <;> go_wp2 <;> go_ret <;> exact ⟨by simp [betw, *], rfl⟩

set_option maxHeartbeats 400000 in
theorem rIs_calls (b : Int) (s : ByteArray) (w : World) (_hs : s.size ≤ maxLen) :
    Calls Tryz.prog 100 #[.int .u8 b, .string s] w fun e w' => e = .returned (.bool (hasB b s.data.toList)) ∧ w' = w := by
  unfold maxLen at _hs
  go_enter Tryz.func100, Tryz.ntmps100
  go_wp2
  go_loop [5] (fun i => ∃ k : Nat, k ≤ s.size ∧ i = .int .i64 k ∧ Hid (hasB b s.data.toList = hasB b (s.data.toList.drop k))) (fun i => s.size - (intOf i).toNat)
  case atStart => exact ⟨0, Nat.zero_le _, rfl, Lib.hid rfl⟩
  case round =>
    obtain ⟨k, hk, rfl, HL⟩ := hrel
    by_cases hp : k < s.size
    · have h0 := hasB_step b s.data.toList k (by simpa using hp)
      rw [get_list s k hp] at h0
      by_cases hc : (s[k].toNat : Int) = b
      · have g : ((s[k].toNat : Int) == b) = true := beq_iff_eq.2 hc
        have H0 := Lib.hid (h0.trans (by simp [hc]) : _ = true)
        clear h0 hc
        go_wp2
        go_ret
        exact ⟨ret_bool (by rw [HL.out, H0.out]), rfl⟩
      · have g : ((s[k].toNat : Int) == b) = false := beq_eq_false_iff_ne.2 hc
        have H0 := Lib.hid (h0.trans (by simp [hc]) : _ = hasB b (s.data.toList.drop (k + 1)))
        clear h0 hc
        go_wp2
        go_round
        case rel => exact ⟨k + 1, by omega, by go_num, Lib.hid (by rw [HL.out, H0.out])⟩
        case measure => simp [intOf]; omega
    · have H0 := Lib.hid (hasB_end b s.data.toList k (by simpa using (by omega : s.size ≤ k)))
      go_wp2
      go_ret
      exact ⟨ret_bool (by rw [HL.out, H0.out]), rfl⟩

theorem mark_has (b : Int) : hasB b [60, 62, 34, 123, 125, 124, 94, 96, 92] = markZ b := by
  rw [Bool.eq_iff_iff]; simp [hasB, markZ]; omega

theorem iriZ_atoms (c : Int) : iriZ c = (betw 33 c 126 && !markZ c) := by
  rw [Bool.eq_iff_iff]; simp [iriZ, betw] <;> omega

theorem litZ_atoms (c : Int) : litZ c = (betw 32 c 126 || (c == 10) || (c == 9)) := by
  rw [Bool.eq_iff_iff]; simp [litZ, betw] <;> omega

theorem wordZ_atoms (c : Int) : wordZ c = (betw 97 c 122 || betw 65 c 90 || betw 48 c 57 || (c == 95)) := by
  rw [Bool.eq_iff_iff]; simp [wordZ, betw, letterZ, smallZ, bigZ, digitZ] <;> omega

theorem smallZ_atoms (c : Int) : smallZ c = (betw 97 c 122) := by
  rw [Bool.eq_iff_iff]; simp [smallZ, betw] <;> omega

set_option maxHeartbeats 1000000 in
theorem rAll1_calls (s : ByteArray) (w : World) (_hs : s.size ≤ maxLen) :
    Calls Tryz.prog 79 #[.string s, .int .i64 1] w fun e w' => e = .returned (.bool (allB iriZ s.data.toList)) ∧ w' = w := by
  unfold maxLen at _hs
  go_enter Tryz.func79, Tryz.ntmps79
  go_wp2
  go_loop [5] (fun i => ∃ k : Nat, k ≤ s.size ∧ i = .int .i64 k ∧ Hid (allB iriZ s.data.toList = allB iriZ (s.data.toList.drop k))) (fun i => s.size - (intOf i).toNat)
  case atStart => exact ⟨0, Nat.zero_le _, rfl, Lib.hid rfl⟩
  case round =>
    obtain ⟨k, hk, rfl, HL⟩ := hrel
    by_cases hp : k < s.size
    · have h0 := allB_step iriZ s.data.toList k (by simpa using hp)
      rw [get_list s k hp, iriZ_atoms] at h0
      have H0 := Lib.hid h0
      clear h0
      rcases (show (betw 33 (s[k].toNat : Int) 126) = true ∨ (betw 33 (s[k].toNat : Int) 126) = false by cases (betw 33 (s[k].toNat : Int) 126) <;> simp) with hA | hA
      all_goals rcases (show (markZ (s[k].toNat : Int)) = true ∨ (markZ (s[k].toNat : Int)) = false by cases (markZ (s[k].toNat : Int)) <;> simp) with hB | hB
      all_goals
        go_wp2_with (first | (go_at_call 80; refine (rBetween_calls _ _ _ _).mono ?_; rintro e w' ⟨rfl, hw⟩; obtain rfl := hw.symm; clear hw) | (go_at_call 100; refine (rIs_calls _ _ _ (by decide)).mono ?_; rintro e w' ⟨rfl, hw⟩; obtain rfl := hw.symm; clear hw; rw [show (ByteArray.mk #[60, 62, 34, 123, 125, 124, 94, 96, 92]).data.toList = [60, 62, 34, 123, 125, 124, 94, 96, 92] from rfl, mark_has]))
        first
        | (go_ret; exact ⟨ret_bool (by rw [HL.out, H0.out]; simp [hA, hB]), rfl⟩)
        | (go_round
           case rel => exact ⟨k + 1, by omega, by go_num, Lib.hid (by rw [HL.out, H0.out]; simp [hA, hB])⟩
           case measure => simp [intOf]; omega)
    · have H0 := Lib.hid (allB_end iriZ s.data.toList k (by simpa using (by omega : s.size ≤ k)))
      go_wp2
      go_ret
      exact ⟨ret_bool (by rw [HL.out, H0.out]), rfl⟩

set_option maxHeartbeats 1000000 in
theorem rAll2_calls (s : ByteArray) (w : World) (_hs : s.size ≤ maxLen) :
    Calls Tryz.prog 79 #[.string s, .int .i64 2] w fun e w' => e = .returned (.bool (allB litZ s.data.toList)) ∧ w' = w := by
  unfold maxLen at _hs
  go_enter Tryz.func79, Tryz.ntmps79
  go_wp2
  go_loop [5] (fun i => ∃ k : Nat, k ≤ s.size ∧ i = .int .i64 k ∧ Hid (allB litZ s.data.toList = allB litZ (s.data.toList.drop k))) (fun i => s.size - (intOf i).toNat)
  case atStart => exact ⟨0, Nat.zero_le _, rfl, Lib.hid rfl⟩
  case round =>
    obtain ⟨k, hk, rfl, HL⟩ := hrel
    by_cases hp : k < s.size
    · have h0 := allB_step litZ s.data.toList k (by simpa using hp)
      rw [get_list s k hp, litZ_atoms] at h0
      have H0 := Lib.hid h0
      clear h0
      rcases (show (betw 32 (s[k].toNat : Int) 126) = true ∨ (betw 32 (s[k].toNat : Int) 126) = false by cases (betw 32 (s[k].toNat : Int) 126) <;> simp) with hA | hA
      all_goals rcases (show (((s[k].toNat : Int) == 10)) = true ∨ (((s[k].toNat : Int) == 10)) = false by cases (((s[k].toNat : Int) == 10)) <;> simp) with hB | hB
      all_goals rcases (show (((s[k].toNat : Int) == 9)) = true ∨ (((s[k].toNat : Int) == 9)) = false by cases (((s[k].toNat : Int) == 9)) <;> simp) with hC | hC
      all_goals
        go_wp2_with (first | (go_at_call 80; refine (rBetween_calls _ _ _ _).mono ?_; rintro e w' ⟨rfl, hw⟩; obtain rfl := hw.symm; clear hw) | (go_at_call 100; refine (rIs_calls _ _ _ (by decide)).mono ?_; rintro e w' ⟨rfl, hw⟩; obtain rfl := hw.symm; clear hw; rw [show (ByteArray.mk #[60, 62, 34, 123, 125, 124, 94, 96, 92]).data.toList = [60, 62, 34, 123, 125, 124, 94, 96, 92] from rfl, mark_has]))
        first
        | (go_ret; exact ⟨ret_bool (by rw [HL.out, H0.out]; simp [hA, hB, hC]), rfl⟩)
        | (go_round
           case rel => exact ⟨k + 1, by omega, by go_num, Lib.hid (by rw [HL.out, H0.out]; simp [hA, hB, hC])⟩
           case measure => simp [intOf]; omega)
    · have H0 := Lib.hid (allB_end litZ s.data.toList k (by simpa using (by omega : s.size ≤ k)))
      go_wp2
      go_ret
      exact ⟨ret_bool (by rw [HL.out, H0.out]), rfl⟩

set_option maxHeartbeats 1000000 in
theorem rAll3_calls (s : ByteArray) (w : World) (_hs : s.size ≤ maxLen) :
    Calls Tryz.prog 79 #[.string s, .int .i64 3] w fun e w' => e = .returned (.bool (allB wordZ s.data.toList)) ∧ w' = w := by
  unfold maxLen at _hs
  go_enter Tryz.func79, Tryz.ntmps79
  go_wp2
  go_loop [5] (fun i => ∃ k : Nat, k ≤ s.size ∧ i = .int .i64 k ∧ Hid (allB wordZ s.data.toList = allB wordZ (s.data.toList.drop k))) (fun i => s.size - (intOf i).toNat)
  case atStart => exact ⟨0, Nat.zero_le _, rfl, Lib.hid rfl⟩
  case round =>
    obtain ⟨k, hk, rfl, HL⟩ := hrel
    by_cases hp : k < s.size
    · have h0 := allB_step wordZ s.data.toList k (by simpa using hp)
      rw [get_list s k hp, wordZ_atoms] at h0
      have H0 := Lib.hid h0
      clear h0
      rcases (show (betw 97 (s[k].toNat : Int) 122) = true ∨ (betw 97 (s[k].toNat : Int) 122) = false by cases (betw 97 (s[k].toNat : Int) 122) <;> simp) with hA | hA
      all_goals rcases (show (betw 65 (s[k].toNat : Int) 90) = true ∨ (betw 65 (s[k].toNat : Int) 90) = false by cases (betw 65 (s[k].toNat : Int) 90) <;> simp) with hB | hB
      all_goals rcases (show (betw 48 (s[k].toNat : Int) 57) = true ∨ (betw 48 (s[k].toNat : Int) 57) = false by cases (betw 48 (s[k].toNat : Int) 57) <;> simp) with hC | hC
      all_goals rcases (show (((s[k].toNat : Int) == 95)) = true ∨ (((s[k].toNat : Int) == 95)) = false by cases (((s[k].toNat : Int) == 95)) <;> simp) with hD | hD
      all_goals
        go_wp2_with (first | (go_at_call 80; refine (rBetween_calls _ _ _ _).mono ?_; rintro e w' ⟨rfl, hw⟩; obtain rfl := hw.symm; clear hw) | (go_at_call 100; refine (rIs_calls _ _ _ (by decide)).mono ?_; rintro e w' ⟨rfl, hw⟩; obtain rfl := hw.symm; clear hw; rw [show (ByteArray.mk #[60, 62, 34, 123, 125, 124, 94, 96, 92]).data.toList = [60, 62, 34, 123, 125, 124, 94, 96, 92] from rfl, mark_has]))
        first
        | (go_ret; exact ⟨ret_bool (by rw [HL.out, H0.out]; simp [hA, hB, hC, hD]), rfl⟩)
        | (go_round
           case rel => exact ⟨k + 1, by omega, by go_num, Lib.hid (by rw [HL.out, H0.out]; simp [hA, hB, hC, hD])⟩
           case measure => simp [intOf]; omega)
    · have H0 := Lib.hid (allB_end wordZ s.data.toList k (by simpa using (by omega : s.size ≤ k)))
      go_wp2
      go_ret
      exact ⟨ret_bool (by rw [HL.out, H0.out]), rfl⟩

set_option maxHeartbeats 1000000 in
theorem rAll4_calls (s : ByteArray) (w : World) (_hs : s.size ≤ maxLen) :
    Calls Tryz.prog 79 #[.string s, .int .i64 4] w fun e w' => e = .returned (.bool (allB smallZ s.data.toList)) ∧ w' = w := by
  unfold maxLen at _hs
  go_enter Tryz.func79, Tryz.ntmps79
  go_wp2
  go_loop [5] (fun i => ∃ k : Nat, k ≤ s.size ∧ i = .int .i64 k ∧ Hid (allB smallZ s.data.toList = allB smallZ (s.data.toList.drop k))) (fun i => s.size - (intOf i).toNat)
  case atStart => exact ⟨0, Nat.zero_le _, rfl, Lib.hid rfl⟩
  case round =>
    obtain ⟨k, hk, rfl, HL⟩ := hrel
    by_cases hp : k < s.size
    · have h0 := allB_step smallZ s.data.toList k (by simpa using hp)
      rw [get_list s k hp, smallZ_atoms] at h0
      have H0 := Lib.hid h0
      clear h0
      rcases (show (betw 97 (s[k].toNat : Int) 122) = true ∨ (betw 97 (s[k].toNat : Int) 122) = false by cases (betw 97 (s[k].toNat : Int) 122) <;> simp) with hA | hA
      all_goals
        go_wp2_with (first | (go_at_call 80; refine (rBetween_calls _ _ _ _).mono ?_; rintro e w' ⟨rfl, hw⟩; obtain rfl := hw.symm; clear hw) | (go_at_call 100; refine (rIs_calls _ _ _ (by decide)).mono ?_; rintro e w' ⟨rfl, hw⟩; obtain rfl := hw.symm; clear hw; rw [show (ByteArray.mk #[60, 62, 34, 123, 125, 124, 94, 96, 92]).data.toList = [60, 62, 34, 123, 125, 124, 94, 96, 92] from rfl, mark_has]))
        first
        | (go_ret; exact ⟨ret_bool (by rw [HL.out, H0.out]; simp [hA]), rfl⟩)
        | (go_round
           case rel => exact ⟨k + 1, by omega, by go_num, Lib.hid (by rw [HL.out, H0.out]; simp [hA])⟩
           case measure => simp [intOf]; omega)
    · have H0 := Lib.hid (allB_end smallZ s.data.toList k (by simpa using (by omega : s.size ≤ k)))
      go_wp2
      go_ret
      exact ⟨ret_bool (by rw [HL.out, H0.out]), rfl⟩

end Go.Proofs.YtdnfaoanaehjhaaGreatDoor

/- The document's tests of names, IRIs, languages and terms, in plain words, are package term's (no program). -/
namespace Go.Proofs.YtdnfaoanaehjhaaGreatDoor

def allAt (p : Nat → Int → Bool) : Nat → List UInt8 → Bool
  | _, [] => true
  | k, b :: r => p k (b.toNat : Int) && allAt p (k + 1) r
theorem lead_full (p : Nat → Int → Bool) : ∀ (k : Nat) (l : List UInt8), (lead p k l == l.length) = allAt p k l
  | _, [] => by simp [lead, allAt]
  | k, b :: r => by
    have ih := lead_full p (k + 1) r
    simp only [lead, allAt, List.length_cons]
    cases h : p k (b.toNat : Int) with
    | true => rw [Bool.true_and, ← ih, Bool.eq_iff_iff]; simp
    | false => simp

theorem allB_cons (p : Int → Bool) (b : UInt8) (r : List UInt8) : allB p (b :: r) = (p (b.toNat : Int) && allB p r) := rfl

theorem allAt_bound (q : Int → Bool) (n : Nat) : ∀ (k : Nat) (l : List UInt8), l ≠ [] → allAt (fun k c => decide (k < n) && q c) k l = (decide (k + l.length ≤ n) && allB q l)
  | _, [], h => absurd rfl h
  | k, [b], _ => by
    rw [Bool.eq_iff_iff]; simp [allAt, allB]; omega
  | k, b :: c :: r, _ => by
    have ih := allAt_bound q n (k + 1) (c :: r) (by simp)
    rw [allAt, ih, allB_cons q b (c :: r), Bool.eq_iff_iff]
    simp
    constructor
    · rintro ⟨⟨_, h1⟩, h2, h3⟩; exact ⟨by omega, h1, h3⟩
    · rintro ⟨h1, h2, h3⟩; exact ⟨⟨by omega, h2⟩, by omega, h3⟩

theorem iriL_eq (l : List UInt8) : iriL l = (decide (1 ≤ l.length) && decide (l.length ≤ 4096) && allB iriZ l) := by
  cases l with
  | nil => rfl
  | cons b r =>
    unfold iriL iriLead
    rw [lead_full, allAt_bound iriZ 4096 0 (b :: r) (by simp), Nat.zero_add]
    simp

theorem lead_lang (l : List UInt8) : langLead l = lead (fun k c => decide (k < 9) && smallZ c) 0 l := by
  unfold langLead
  congr 1
  funext k c
  congr 1
  rw [decide_eq_decide]; omega

theorem langL_eq (l : List UInt8) : langL l = (decide (1 ≤ l.length) && decide (l.length ≤ 8) && allB smallZ l) := by
  cases l with
  | nil => rfl
  | cons b r =>
    unfold langL
    rw [lead_lang, lead_full, allAt_bound smallZ 9 0 (b :: r) (by simp), Nat.zero_add, Bool.eq_iff_iff]
    simp
    constructor
    · rintro ⟨⟨_, h⟩, g⟩; exact ⟨by omega, h⟩
    · rintro ⟨g, h⟩; exact ⟨⟨by omega, h⟩, by omega⟩

theorem allAt_name : ∀ (k : Nat) (l : List UInt8), 0 < k → allAt (fun k c => decide (k < 32) && nameZ c k) k l = allAt (fun k c => decide (k < 32) && wordZ c) k l
  | _, [], _ => rfl
  | k, b :: r, h => by
    rw [allAt, allAt, allAt_name (k + 1) r (by omega)]
    have e : nameZ (b.toNat : Int) k = wordZ (b.toNat : Int) := by
      have : decide (0 < (k : Int)) = true := by simp; exact h
      rw [nameZ, wordZ, this, Bool.eq_iff_iff]; simp; exact or_assoc.symm.trans (by constructor <;> (rintro ((h | h) | h) <;> simp [h]))
    rw [e]

theorem nameL_eq (b : UInt8) (r : List UInt8) : nameL (b :: r) = (decide (r.length + 1 ≤ 32) && allB wordZ (b :: r) && letterZ (b.toNat : Int)) := by
  unfold nameL nameLead
  rw [lead_full, allAt, allAt_name 1 r (by omega)]
  have e : nameZ (b.toNat : Int) ((0 : Nat) : Int) = letterZ (b.toNat : Int) := by simp [nameZ]
  rw [e, allB_cons]
  have ew : letterZ (b.toNat : Int) = true → wordZ (b.toNat : Int) = true := fun h => by simp [wordZ, h]
  cases r with
  | nil => rw [Bool.eq_iff_iff]; simp [allAt, allB]; exact ew
  | cons c r =>
    rw [allAt_bound wordZ 32 1 (c :: r) (by simp), Bool.eq_iff_iff]
    simp
    constructor
    · rintro ⟨h, g, a⟩; exact ⟨⟨by omega, ew h, a⟩, h⟩
    · rintro ⟨⟨g, _, a⟩, h⟩; exact ⟨h, by omega, a⟩

theorem litL_eq (l : List UInt8) : litL l = (decide (l.length ≤ 4096) && allB litZ l) := rfl

end Go.Proofs.YtdnfaoanaehjhaaGreatDoor
