/- Of rows that are the same the first one alone: the document's Distinct (written by gen/mkrdist12.py). -/
import Derived.Test.YtdnfaoanaehjhaaGreatDoorShpRowsR
import Derived.Test.YtdnfaoanaehjhaaGreatDoorH8
import Derived.Test.YtdnfaoanaehjhaaGreatDoorH6
import Derived.Lib.QuietBelow
import Derived.Test.YtdnfaoanaehjhaaGreatDoorH13
namespace Go.Proofs.YtdnfaoanaehjhaaGreatDoor
open Go.RowKit Go.Maps Go.Sort

theorem RowsR.on {X : Nat} {w0 W W' : World} {vs v : Value} {F : List RowL} (h : RowsR X w0 vs v F W) (hb : Below W.heap.size W W') : RowsR X w0 vs v F W' := by
  obtain ⟨cs, h1, h2⟩ := h.own
  refine ⟨blk_on h.all hb (blk_lt h.all), ⟨cs, h1.kept (row := none) ⟨hb.os, hb.tape, hb.output, hb.size, fun b hb2 _ => hb.block b hb2⟩ (by
    cases hq : v.ownBlock with
    | none => exact .inl rfl
    | some x => exact .inr (by simp)), h2.on (stay_below hb)⟩, h.below.trans (hb.mono (by have := h.size; omega)), Nat.le_trans h.size hb.size⟩
theorem TrmK.apart {K : Nat → Prop} {w : World} {a : Option Addr} {n c B : Nat} {L : List TermL} {x1 x2 : Option Addr} {y1 y2 z1 z2 : Nat} (h : TrmK K w a n c L) (hb : Blk w B 25 #[.slice x1 y1 z1, .slice x2 y2 z2]) : TrmK (fun b => K b ∧ b ≠ B) w a n c L := ⟨h.len, h.cap, h.most, fun h0 => by
  obtain ⟨g, o, e, hg, k, hc⟩ := h.cells h0
  refine ⟨g, o, e, hg, ⟨k, fun hgB => ?_⟩, hc⟩
  subst hgB
  have h1 := (hc 0 (by rw [h.len]; exact h0)).1
  rw [Nat.zero_mul, Nat.add_zero, blk_cell hb] at h1
  rcases o with _ | _ | o <;> simp at h1⟩
theorem RowCK.apart {K : Nat → Prop} {w : World} {cs : List Value} {F : List RowL} {B : Nat} {x1 x2 : Option Addr} {y1 y2 z1 z2 : Nat} (h : RowCK K w cs F) (hb : Blk w B 25 #[.slice x1 y1 z1, .slice x2 y2 z2]) : RowCK (fun b => K b ∧ b ≠ B) w cs F := ⟨h.1, fun j hj => by
  obtain ⟨a', c', e, ht⟩ := h.2 j hj
  exact ⟨a', c', e, ht.apart hb⟩⟩
def inB (F : List RowL) (y : RowL) (k : Nat) : Bool := decide (y ∈ F.take k)
theorem inB_zero (F : List RowL) (y : RowL) : inB F y 0 = false := by unfold inB; simp
theorem inB_next {F : List RowL} {y : RowL} {k : Nat} (hk : k < F.length) : inB F y (k + 1) = (inB F y k || decide (F[k] = y)) := by
  unfold inB
  rw [List.take_succ_eq_append_getElem hk, Bool.eq_iff_iff]
  simp only [decide_eq_true_eq, List.mem_append, List.mem_singleton, Bool.or_eq_true]
  exact ⟨fun h => h.elim .inl (fun e => .inr e.symm), fun h => h.elim .inl (fun e => .inr e.symm)⟩
theorem inB_all {F : List RowL} {y : RowL} {k : Nat} (hk : F.length ≤ k) : inB F y k = decide (y ∈ F) := by unfold inB; rw [List.take_of_length_le hk]

set_option maxRecDepth 100000 in
set_option maxHeartbeats 8000000 in
theorem rDistinct_new (V : List (List UInt8)) (R : List RowL) (tv : Value) (w : World) (ht : TabA w tv V R) (h40 : R.length ≤ 40) :
    Calls Tryz.prog 45 #[tv] w fun e w' => ∃ va n vc ra m rc, e = .returned (.agg #[.slice va n vc, .slice ra m rc]) ∧ TxtA w' va n vc V ∧ RowA w' ra m rc (distP R) ∧ Below w.heap.size w w' ∧ ∀ g o, ra = some ⟨g, o, none⟩ → w.heap.size ≤ g := by
  obtain ⟨i0, hi, hz0, hz1, hz2⟩ := info_parts info_row
  obtain ⟨va, n, vc, ra, m, rc, rfl, hV, hR⟩ := ht
  have HV := Lib.hid hV
  have HR := Lib.hid hR
  have HRL := Lib.hid hR.len
  have hm40 : m ≤ 40 := by rw [← hR.len]; exact h40
  obtain ⟨A, hA⟩ : ∃ A, w.heap.size = A := ⟨_, rfl⟩
  have HAE := Lib.hid hA
  obtain ⟨w0, hw0⟩ : ∃ w0, ((w.alloc (.cells #[.slice va n vc, .slice ra m rc] 25)).alloc (.cells #[.slice none 0 0, .slice none 0 0] 25)).alloc (.cells #[.slice va n vc, .slice none 0 0] 25) = w0 := ⟨_, rfl⟩
  have HW0 := Lib.hid hw0
  have HBW0 := Lib.hid (show Below w.heap.size w w0 by rw [← hw0]; exact fb2 (two_alloc _ _ _) (box_below _ _) (Nat.le_refl _))
  have HAW0 := Lib.hid (show Blk w0 A 25 #[.slice va n vc, .slice ra m rc] by rw [← hw0, ← hA]; exact blk_alloc (blk_alloc (blk_new _ _ _) _) _)
  have HEW0 := Lib.hid (show Blk w0 (A + 1) 25 #[.slice none 0 0, .slice none 0 0] by
    rw [← hw0]
    refine blk_alloc ?_ _
    have := blk_new (w.alloc (.cells #[.slice va n vc, .slice ra m rc] 25)) 25 #[.slice none 0 0, .slice none 0 0]
    rw [World.size_alloc, hA] at this
    exact this)
  obtain ⟨X, hX⟩ : ∃ X, A + 1 + 1 = X := ⟨_, rfl⟩
  have HAX := Lib.hid (show A + 1 < X by omega)
  have HLE := Lib.hid (show w.heap.size ≤ X by omega)
  have HS0 := Lib.hid (show RowsR X w0 (.slice va n vc) (.slice none 0 0) (distP (R.take 0)) w0 from by
    have hb : Blk w0 X 25 #[.slice va n vc, .slice none 0 0] := by
      rw [← hw0, ← hX]
      have := blk_new ((w.alloc (.cells #[.slice va n vc, .slice ra m rc] 25)).alloc (.cells #[.slice none 0 0, .slice none 0 0] 25)) 25 #[.slice va n vc, .slice none 0 0]
      rw [World.size_alloc, World.size_alloc, hA] at this
      exact this
    have := RowsR.start (F := []) hb
    simpa [distP] using this)
  clear hA h40 hV hR hw0
  go_enter Tryz.func45, Tryz.ntmps45
  go_wp2
  rw [HW0.out, HAE.out, hX]
  clear hX
  go_loopg [4, 5, 6] m (fun g i _ _ wr => ∃ (i' : Nat) (v : Value), i = .int .i64 i' ∧ i' + g = m ∧ Hid (RowsR X w0 (.slice va n vc) v (distP (R.take i')) wr))
  case atStart => exact ⟨0, _, rfl, by omega, HS0⟩
  case round =>
    obtain ⟨W0, rfl⟩ : ∃ W0, W0 = wr := ⟨_, rfl⟩
    obtain ⟨i, v, rfl, hig, HRD⟩ := hrel
    have HBW := Lib.hid (HBW0.out.trans (HRD.out.below.mono HLE.out))
    have q1 : W0.cell? ⟨A, 1, none⟩ = some (.slice ra m rc) := (blk_cell (blk_on HAW0.out HRD.out.below (by have := HAX.out; omega)) 1).trans rfl
    have k0 : (0 : Int) ≤ (i : Int) := by omega
    by_cases him : i < m
    · obtain ⟨g1, rfl⟩ : ∃ g1, gk = g1 + 1 := ⟨gk - 1, by omega⟩
      have hiL : i < R.length := by rw [HRL.out]; exact him
      obtain ⟨g, o, rfl, hgw, hcells⟩ := HR.out.cells (by omega)
      obtain ⟨a', c', hcell, htrm⟩ := hcells i hiL
      have hds := dist_snoc (R.take i) R[i]
      rw [← List.take_succ_eq_append_getElem hiL] at hds
      have HDS := Lib.hid hds
      have HTW := Lib.hid htrm
      have HFM := Lib.hid (show (distP (R.take i)).length ≤ 40 by have h1 := dist_le (R.take i); rw [List.length_take] at h1; omega)
      generalize hF : distP (R.take i) = F at HRD HDS HFM
      generalize R[i] = y at hcell HTW HDS
      clear htrm hds hF
      generalize hyn : y.length = yn at hcell HTW
      have HYN := Lib.hid hyn
      have HGW := Lib.hid hgw
      have HCL := Lib.hid hcell
      obtain ⟨a3, c3, hv, _⟩ := HRD.out.rows
      subst hv
      obtain ⟨f, hf⟩ : ∃ f, F.length = f := ⟨_, rfl⟩
      rw [hf] at HRD
      have HFL := Lib.hid hf
      have hf40 : f ≤ 40 := by rw [← hf]; exact HFM.out
      have k1 : (i : Int) < (m : Int) := by omega
      have q2 : W0.cell? ⟨X, 1, none⟩ = some (.slice a3 f c3) := (blk_cell HRD.out.all 1).trans rfl
      clear hcells hcell hyn hiL hgw hf
      go_wp2
      clear q1 q2
      have HBI := Lib.hid (inB_zero F y)
      go_loopg [5, 6] f (fun g b k wr => ∃ k' : Nat, k = .int .i64 k' ∧ k' + g = f ∧ b = .bool (inB F y k') ∧ Hid (RowsR X w0 (.slice va n vc) (.slice a3 f c3) F wr))
      case atStart => exact ⟨0, rfl, by omega, by rw [HBI.out], HRD⟩
      case round =>
        clear HRD HBW
        obtain ⟨W1, rfl⟩ : ∃ W1, W1 = wr := ⟨_, rfl⟩
        obtain ⟨k, rfl, hkg, rfl, HRD⟩ := hrel
        have HBW := Lib.hid (HBW0.out.trans (HRD.out.below.mono HLE.out))
        have q1 : W1.cell? ⟨A, 1, none⟩ = some (.slice (some ⟨g, o, none⟩) m rc) := (blk_cell (blk_on HAW0.out HRD.out.below (by have := HAX.out; omega)) 1).trans rfl
        have q2 : W1.cell? ⟨X, 1, none⟩ = some (.slice a3 f c3) := (blk_cell HRD.out.all 1).trans rfl
        have j0 : (0 : Int) ≤ (k : Int) := by omega
        by_cases hkf : k < f
        · obtain ⟨h1, rfl⟩ : ∃ h1, gk = h1 + 1 := ⟨gk - 1, by omega⟩
          have hkF : k < F.length := by rw [HFL.out]; exact hkf
          have HNX := Lib.hid (inB_next (y := y) hkF)
          obtain ⟨a4, c4, hv4, hrow⟩ := HRD.out.rows
          rw [HFL.out] at hv4 hrow
          have e4 : a3 = a4 ∧ c3 = c4 := by simpa using hv4
          obtain ⟨rfl, rfl⟩ := e4
          obtain ⟨g3, o3, rfl, hg3, hc3⟩ := hrow.cells (by omega)
          obtain ⟨a5, c5, hcell5, htrm5⟩ := hc3 k hkF
          have cS := fun d os => Calls.regrown_of (rowSame_calls F[k] y a5 a' F[k].length yn c5 c' (grow (redrawn W1 d) os) (htrm5.on (below_regrown W1 d os)) ((HTW.out.on HBW.out).on (below_regrown W1 d os)))
          have e0 := regrown_cell (keptC HCL.out HBW.out HGW.out)
          have e1 := regrown_cell q1
          have e2 := regrown_cell q2
          have e3 := regrown_cell hcell5
          have j1 : (k : Int) < (f : Int) := by omega
          clear hc3 hcell5 htrm5 hrow hv4 hg3
          generalize F[k] = z at e3 cS HNX
          generalize z.length = l at e3 cS
          generalize decide (z = y) = bz at cS HNX
          have hib : inB F y k = true ∨ inB F y k = false := by cases inB F y k <;> simp
          rcases hib with hib | hib
          · rw [hib] at HNX ⊢
            clear hib
            go_wp2_with fail
            refine wp_region_quiet_below (by kernel_rfl) (by kernel_rfl) ?_
            quiet_step (fail)
            quiet_step (fail)
            repeat go_big_quiet_skip
            quiet_step (fail)
            quiet_step (fail)
            refine wpQuiet_nil ?_
            intro W4 hw'
            obtain ⟨⟨dq, osq⟩, hw''⟩ := hw'
            have HT4 := Lib.hid (HRD.out.on (show Below W1.heap.size W1 W4 by rw [hw'']; exact below_regrown W1 dq osq))
            clear hw'' e0 e1 e2 e3 cS q1 q2
            go_wp2
            go_roundg h1
            case measure => omega
            case rel => exact ⟨k + 1, by go_num, by omega, by rw [HNX.out]; rfl, HT4⟩
          · rw [hib] at HNX ⊢
            clear hib
            go_wp2_with fail
            refine wp_region_quiet_below (by kernel_rfl) (by kernel_rfl) ?_
            repeat (quiet_step (exact cS _ _))
            refine wpQuiet_nil ?_
            intro W4 hw'
            obtain ⟨⟨dq, osq⟩, hw''⟩ := hw'
            have HT4 := Lib.hid (HRD.out.on (show Below W1.heap.size W1 W4 by rw [hw'']; exact below_regrown W1 dq osq))
            clear hw'' e0 e1 e2 e3 cS q1 q2
            go_wp2
            go_roundg h1
            case measure => omega
            case rel => exact ⟨k + 1, by go_num, by omega, by rw [HNX.out]; rfl, HT4⟩
        · have j1 : ¬ (k : Int) < (f : Int) := by omega
          have hal := inB_all (F := F) (y := y) (k := k) (by have := HFL.out; omega)
          rw [hal]
          by_cases hin : y ∈ F
          · have HFN := Lib.hid (show distP (R.take (i + 1)) = F from HDS.out.trans (if_pos hin))
            rw [decide_eq_true hin]
            clear hal hin
            go_wp2
            go_roundg g1
            case measure => omega
            case rel => exact ⟨i + 1, _, by go_num, by omega, by rw [HFN.out]; exact HRD⟩
          · have HTK := Lib.hid (show F ++ [y] = distP (R.take (i + 1)) from (HDS.out.trans (if_neg hin)).symm)
            rw [decide_eq_false hin]
            clear hal hin
            have HTM := Lib.hid ((HTW.out.k).on (stay_below HBW.out))
            have HSA := Lib.hid (show W1.cell? ⟨A, 1, none⟩ = some (.slice (some ⟨g, o, none⟩) m rc) ∧ W1.cell? ⟨g, o + i, none⟩ = some (.slice a' yn c') from ⟨q1, keptC HCL.out HBW.out HGW.out⟩)
            have HSL := Lib.hid (show A < W1.heap.size ∧ g < W1.heap.size from ⟨by have h1 := HAX.out; have h2 := HRD.out.size; omega, Nat.lt_of_lt_of_le HGW.out HBW.out.size⟩)
            have HGX := Lib.hid (show g < X from Nat.lt_of_lt_of_le HGW.out HLE.out)
            have HQ1 := Lib.hid q2
            have HXL := Lib.hid (blk_lt HRD.out.all)
            have HSX := Lib.hid HRD.out.size
            have HL1 := HFL
            obtain ⟨cs, hown, hrc⟩ := HRD.out.own
            rw [HFL.out] at hown
            clear q1
            go_wp2_with fail
            obtain ⟨v, hv⟩ : ∃ v, Value.slice a3 f c3 = v := ⟨_, rfl⟩
            rw [hv] at hown HRD HQ1
            clear q2
            have HOW := Lib.hid hown
            have HRC := Lib.hid hrc
            have HOB : Hid (∀ e, Value.ownBlock v = some e → X + 1 ≤ e) := Lib.hid (fun e he => (hown.lt e he).1)
            clear hown hrc hv
            refine wp_region_held_drew (S := (fun W => W.cell? ⟨A, 1, none⟩ = some (.slice (some ⟨g, o, none⟩) m rc) ∧ W.cell? ⟨g, o + i, none⟩ = some (.slice a' yn c'))) (by kernel_rfl) ?_ (fun hHeld => ?_)
            · (try dsimp only); exact HSA.out
            obtain ⟨Wd, hWd⟩ : ∃ Wd, W1.drew = Wd := ⟨_, rfl⟩
            rw [hWd] at hHeld ⊢
            have HBD := Lib.hid (show Below W1.heap.size W1 Wd by rw [← hWd]; exact (Below.refl _ _).drew)
            obtain ⟨W2, hW2⟩ : ∃ W2, Wd.alloc (.cells #[.slice a' yn c'] 35) = W2 := ⟨_, rfl⟩
            have HW2 := Lib.hid hW2
            have HBD2 := Lib.hid (show Below Wd.heap.size Wd W2 by rw [← hW2]; exact box_below _ _)
            have HB2 := Lib.hid (fb2 HBD.out HBD2.out (Nat.le_refl _))
            have HN2 : Hid (W2.cell? ⟨Wd.heap.size, 0, none⟩ = some (.slice a' yn c')) := Lib.hid (by rw [← hW2]; exact blk_cell (blk_new Wd 35 #[.slice a' yn c']) 0)
            have HS2 := Lib.hid (show W2.cell? ⟨A, 1, none⟩ = some (.slice (some ⟨g, o, none⟩) m rc) ∧ W2.cell? ⟨g, o + i, none⟩ = some (.slice a' yn c') from ⟨keptC HSA.out.1 HB2.out HSL.out.1, keptC HSA.out.2 HB2.out HSL.out.2⟩)
            have HQD := Lib.hid (keptC HQ1.out HBD.out HXL.out)
            have HQ2 := Lib.hid (keptC HQ1.out HB2.out HXL.out)
            have HZ2 := Lib.hid (show X + 1 ≤ W2.heap.size by have h1 := HSX.out; have h2 := HB2.out.size; omega)
            have HO2 := Lib.hid (HOW.out.kept (row := none) ⟨HB2.out.os, HB2.out.tape, HB2.out.output, HB2.out.size, fun b hb _ => HB2.out.block b hb⟩ (by
              cases hq : v.ownBlock with
              | none => exact .inl rfl
              | some x => exact .inr (by simp)))
            clear hWd hW2
            refine wpAnyH_take (i := 0) (oi := ⟨some 40, _, _, _, _, _⟩) (v := ?_) rfl (by kernel_rfl) (by kernel_rfl) (by kernel_rfl) (fun _ _ _ h => h) (Or.inl ⟨by kernel_rfl, ?_⟩) (by assumption) ?_
            rotate_left
            · (intro ww hSw; (try dsimp only at hSw); go_simp); (try with_reducible rfl)
            (try simp only [Act.put, List.setIfInBounds_toArray, List.set_cons_zero, List.set_cons_succ])
            refine wpAnyH_take (i := 2) (oi := ⟨some 42, _, _, _, _, _⟩) (v := ?_) rfl (by kernel_rfl) (by kernel_rfl) (by kernel_rfl) (fun _ _ _ h => h) (Or.inl ⟨by kernel_rfl, ?_⟩) (by assumption) ?_
            rotate_left
            · (intro ww hSw; (try dsimp only at hSw); go_simp); (try with_reducible rfl)
            (try simp only [Act.put, List.setIfInBounds_toArray, List.set_cons_zero, List.set_cons_succ])
            refine wpAnyH_take (i := 3) (oi := ⟨some 43, _, _, _, _, _⟩) (v := ?_) rfl (by kernel_rfl) (by kernel_rfl) (by kernel_rfl) (fun _ _ _ h => h) (Or.inl ⟨by kernel_rfl, ?_⟩) (by assumption) ?_
            rotate_left
            · (intro ww hSw; (try dsimp only at hSw); obtain ⟨d1, _⟩ := hSw; go_simp); (try with_reducible rfl)
            (try simp only [Act.put, List.setIfInBounds_toArray, List.set_cons_zero, List.set_cons_succ])
            refine wpAnyH_take (i := 4) (oi := ⟨some 44, _, _, _, _, _⟩) (v := ?_) rfl (by kernel_rfl) (by kernel_rfl) (by kernel_rfl) (fun _ _ _ h => h) (Or.inl ⟨by kernel_rfl, ?_⟩) (by assumption) ?_
            rotate_left
            · (intro ww hSw; (try dsimp only at hSw); go_simp); (try with_reducible rfl)
            (try simp only [Act.put, List.setIfInBounds_toArray, List.set_cons_zero, List.set_cons_succ])
            refine wpAnyH_take (i := 5) (oi := ⟨some 45, _, _, _, _, _⟩) (v := ?_) rfl (by kernel_rfl) (by kernel_rfl) (by kernel_rfl) (fun _ _ _ h => h) (Or.inl ⟨by kernel_rfl, ?_⟩) (by assumption) ?_
            rotate_left
            · (intro ww hSw; (try dsimp only at hSw); go_simp); (try with_reducible rfl)
            (try simp only [Act.put, List.setIfInBounds_toArray, List.set_cons_zero, List.set_cons_succ])
            refine wpAnyH_take (i := 6) (oi := ⟨some 46, _, _, _, _, _⟩) (v := ?_) rfl (by kernel_rfl) (by kernel_rfl) (by kernel_rfl) (fun _ _ _ h => h) (Or.inl ⟨by kernel_rfl, ?_⟩) (by assumption) ?_
            rotate_left
            · (intro ww hSw; (try dsimp only at hSw); obtain ⟨_, d1⟩ := hSw; go_simp); (try with_reducible rfl)
            (try simp only [Act.put, List.setIfInBounds_toArray, List.set_cons_zero, List.set_cons_succ])
            refine wpAnyH_ready (rs := [1, 7]) (by kernel_rfl) (by simp) ?_
            refine AllReadyH.cons rfl (fun K hK => ?_) (AllReadyH.cons rfl (fun K hK => ?_) AllReadyH.nil)
            · have hqv := HQD.out
              go_simp
              clear hqv
              refine hK.out _ _ ?_ (fun hHeld => ?_)
              · exact hHeld
              clear hK K
              (try simp only [Act.put, List.setIfInBounds_toArray, List.set_cons_zero, List.set_cons_succ])
              refine wpAnyH_ready (rs := [7]) (by kernel_rfl) (by simp) ?_
              refine AllReadyH.cons rfl (fun K hK => ?_) AllReadyH.nil
              go_simp
              rw [HW2.out]
              refine hK.out _ _ ?_ (fun hHeld => ?_)
              · exact HS2.out
              clear hK K
              (try simp only [Act.put, List.setIfInBounds_toArray, List.set_cons_zero, List.set_cons_succ])
              refine wpAnyH_ready (rs := [8]) (by kernel_rfl) (by simp) ?_
              refine AllReadyH.cons rfl (fun K hK => ?_) AllReadyH.nil
              refine wp_append_own (.tmp 41) (.tmp 47) 23 rfl (X + 1) 35 i0 (.slice none 0 0) 1 24 Tryz.underlying23 hi hz0 hz1 hz2 rfl (by decide) v _ _ rfl HO2.out ⟨Wd.heap.size, 0, none⟩ 1 1 [.slice a' yn c'] rfl rfl (fun j u hj => ?_) (fun u hu => ?_) (by unfold maxLen; omega) (by omega) HZ2.out ?_
              · cases j with
                | zero => injection hj with hj; subst hj; exact HN2.out
                | succ j => simp at hj
              · simp only [List.mem_singleton] at hu; subst hu; rfl
              intro v5 w5 ho5 hg5 _
              have HO5 := Lib.hid ho5
              have HB5 := Lib.hid (show Below (X + 1) W1 w5 from (HB2.out.mono HSX.out).grown hg5 (Nat.le_trans HSX.out HB2.out.size) (fun b hb => HOB.out _ hb))
              have HS5 := Lib.hid (show w5.cell? ⟨A, 1, none⟩ = some (.slice (some ⟨g, o, none⟩) m rc) ∧ w5.cell? ⟨g, o + i, none⟩ = some (.slice a' yn c') from ⟨keptC HSA.out.1 HB5.out (by have := HAX.out; omega), keptC HSA.out.2 HB5.out (by have := HGX.out; omega)⟩)
              have HX5 := Lib.hid (blk_on HRD.out.all HB5.out (Nat.lt_succ_self X))
              clear ho5 hg5
              refine hK.out _ _ ?_ (fun hHeld => ?_)
              · exact HS5.out
              clear hK K
              (try simp only [Act.put, List.setIfInBounds_toArray])
              refine wpAnyH_take (i := 9) (oi := ⟨some 49, _, _, _, _, _⟩) (v := ?_) rfl (by kernel_rfl) (by kernel_rfl) (by kernel_rfl) (fun _ _ _ h => h) (Or.inl ⟨by kernel_rfl, ?_⟩) (by assumption) ?_
              rotate_left
              · (intro ww hSw; (try dsimp only at hSw); go_simp); (try with_reducible rfl)
              (try simp only [Act.put])
              refine wpAnyH_ready (rs := [10]) (by kernel_rfl) (by simp) ?_
              refine AllReadyH.cons rfl (fun K hK => ?_) AllReadyH.nil
              refine wp_one_abs 23 (.tmp 49) (.tmp 48) rfl X 1 v5 rfl rfl (own_cells HO5.out).1 (own_cells HO5.out).2 25 [.slice va n vc, v] HX5.out (by kernel_rfl) (by simp) ?_
              intro w6 hX6 hg6
              have HB6 := Lib.hid (show Below X W1 w6 from (HB5.out.mono (Nat.le_succ X)).grown hg6 (by have h1 := HSX.out; have h2 := HB5.out.size; omega) (fun b hb => by injection hb with hb; omega))
              refine hK.out _ _ ?_ (fun hHeld => ?_)
              · exact ⟨keptC HSA.out.1 HB6.out (by have := HAX.out; omega), keptC HSA.out.2 HB6.out HGX.out⟩
              clear hK K
              (try simp only [Act.put])
              refine wpAnyH_done (by kernel_rfl) ?_ _
              have HR6 := Lib.hid (show RowsR X w0 (.slice va n vc) v5 (distP (R.take (i + 1))) w6 from rows_next HRD.out HRC.out HL1.out (HTM.out.mono (fun b _ hb => Nat.lt_of_lt_of_le hb HLE.out)) HYN.out HTK.out HO5.out hX6 hg6 HB6.out)
              clear hX6 hg6
              go_wp2
              go_roundg g1
              case measure => omega
              case rel => exact ⟨i + 1, v5, by go_num, by omega, HR6⟩
            · go_simp
              rw [HW2.out]
              refine hK.out _ _ ?_ (fun hHeld => ?_)
              · exact HS2.out
              clear hK K
              (try simp only [Act.put, List.setIfInBounds_toArray, List.set_cons_zero, List.set_cons_succ])
              have hqv := HQ2.out
              refine wpAnyH_ready (rs := [1]) (by kernel_rfl) (by simp) ?_
              refine AllReadyH.cons rfl (fun K hK => ?_) AllReadyH.nil
              go_simp
              clear hqv
              refine hK.out _ _ ?_ (fun hHeld => ?_)
              · exact hHeld
              clear hK K
              (try simp only [Act.put, List.setIfInBounds_toArray, List.set_cons_zero, List.set_cons_succ])
              refine wpAnyH_ready (rs := [8]) (by kernel_rfl) (by simp) ?_
              refine AllReadyH.cons rfl (fun K hK => ?_) AllReadyH.nil
              refine wp_append_own (.tmp 41) (.tmp 47) 23 rfl (X + 1) 35 i0 (.slice none 0 0) 1 24 Tryz.underlying23 hi hz0 hz1 hz2 rfl (by decide) v _ _ rfl HO2.out ⟨Wd.heap.size, 0, none⟩ 1 1 [.slice a' yn c'] rfl rfl (fun j u hj => ?_) (fun u hu => ?_) (by unfold maxLen; omega) (by omega) HZ2.out ?_
              · cases j with
                | zero => injection hj with hj; subst hj; exact HN2.out
                | succ j => simp at hj
              · simp only [List.mem_singleton] at hu; subst hu; rfl
              intro v5 w5 ho5 hg5 _
              have HO5 := Lib.hid ho5
              have HB5 := Lib.hid (show Below (X + 1) W1 w5 from (HB2.out.mono HSX.out).grown hg5 (Nat.le_trans HSX.out HB2.out.size) (fun b hb => HOB.out _ hb))
              have HS5 := Lib.hid (show w5.cell? ⟨A, 1, none⟩ = some (.slice (some ⟨g, o, none⟩) m rc) ∧ w5.cell? ⟨g, o + i, none⟩ = some (.slice a' yn c') from ⟨keptC HSA.out.1 HB5.out (by have := HAX.out; omega), keptC HSA.out.2 HB5.out (by have := HGX.out; omega)⟩)
              have HX5 := Lib.hid (blk_on HRD.out.all HB5.out (Nat.lt_succ_self X))
              clear ho5 hg5
              refine hK.out _ _ ?_ (fun hHeld => ?_)
              · exact HS5.out
              clear hK K
              (try simp only [Act.put, List.setIfInBounds_toArray])
              refine wpAnyH_take (i := 9) (oi := ⟨some 49, _, _, _, _, _⟩) (v := ?_) rfl (by kernel_rfl) (by kernel_rfl) (by kernel_rfl) (fun _ _ _ h => h) (Or.inl ⟨by kernel_rfl, ?_⟩) (by assumption) ?_
              rotate_left
              · (intro ww hSw; (try dsimp only at hSw); go_simp); (try with_reducible rfl)
              (try simp only [Act.put])
              refine wpAnyH_ready (rs := [10]) (by kernel_rfl) (by simp) ?_
              refine AllReadyH.cons rfl (fun K hK => ?_) AllReadyH.nil
              refine wp_one_abs 23 (.tmp 49) (.tmp 48) rfl X 1 v5 rfl rfl (own_cells HO5.out).1 (own_cells HO5.out).2 25 [.slice va n vc, v] HX5.out (by kernel_rfl) (by simp) ?_
              intro w6 hX6 hg6
              have HB6 := Lib.hid (show Below X W1 w6 from (HB5.out.mono (Nat.le_succ X)).grown hg6 (by have h1 := HSX.out; have h2 := HB5.out.size; omega) (fun b hb => by injection hb with hb; omega))
              refine hK.out _ _ ?_ (fun hHeld => ?_)
              · exact ⟨keptC HSA.out.1 HB6.out (by have := HAX.out; omega), keptC HSA.out.2 HB6.out HGX.out⟩
              clear hK K
              (try simp only [Act.put])
              refine wpAnyH_done (by kernel_rfl) ?_ _
              have HR6 := Lib.hid (show RowsR X w0 (.slice va n vc) v5 (distP (R.take (i + 1))) w6 from rows_next HRD.out HRC.out HL1.out (HTM.out.mono (fun b _ hb => Nat.lt_of_lt_of_le hb HLE.out)) HYN.out HTK.out HO5.out hX6 hg6 HB6.out)
              clear hX6 hg6
              go_wp2
              go_roundg g1
              case measure => omega
              case rel => exact ⟨i + 1, v5, by go_num, by omega, HR6⟩
    · have k1 : ¬ (i : Int) < (m : Int) := by omega
      have hE : R.take i = R := List.take_of_length_le (by have := HRL.out; omega)
      rw [hE] at HRD
      obtain ⟨a3, c3, rfl, hrow⟩ := HRD.out.rows
      have HRW := Lib.hid hrow
      have q2 : W0.cell? ⟨X, 0, none⟩ = some (.slice va n vc) := (blk_cell HRD.out.all 0).trans rfl
      have q3 : W0.cell? ⟨X, 1, none⟩ = some (.slice a3 (distP R).length c3) := (blk_cell HRD.out.all 1).trans rfl
      have HE1 := Lib.hid (blk_on HEW0.out HRD.out.below HAX.out)
      clear hE hrow
      go_wp2_with (refine whole_abs 25 (.tmp 2) (.tmp 50) ⟨rfl, rfl⟩ (A + 1) #[.slice va n vc, .slice a3 (distP R).length c3] rfl rfl 25 #[.slice none 0 0, .slice none 0 0] HE1.out (by kernel_rfl) rfl (by kernel_rfl) ?_; intro w9 hA9 hG9)
      have hae := HAE.out
      have hax := HAX.out
      have hb9 : Below w.heap.size w w9 := HBW.out.grown hG9.out HBW.out.size (fun j hj => by injection hj with hj; omega)
      obtain ⟨cs, hown, hrc⟩ := HRD.out.own
      have hown9 := hown.kept hG9.out (.inr (fun e => by have := (hown.lt _ e).1; omega))
      have hrc9 := (hrc.apart HE1.out).on (w' := w9) ⟨hG9.out.size, fun b hb hk => hG9.out.block b hb (fun e => by injection e with e; exact hk.2 e)⟩
      obtain ⟨a6, c6, hv6, hrow6⟩ := own_rows hown9 hrc9 rfl
      have e6 : a3 = a6 ∧ c3 = c6 := by simpa using hv6
      obtain ⟨rfl, rfl⟩ := e6
      have q5 : w9.cell? ⟨A + 1, 0, none⟩ = some (.slice va n vc) := (blk_cell hA9.out 0).trans rfl
      have q6 : w9.cell? ⟨A + 1, 1, none⟩ = some (.slice a3 (distP R).length c3) := (blk_cell hA9.out 1).trans rfl
      refine bodyPost_ret (v := .agg #[.slice va n vc, .slice a3 (distP R).length c3]) (by simp [results, Tryz.results45, q5, q6, go_sem]) rfl ⟨va, n, vc, a3, _, c3, rfl, HV.out.on hb9, hrow6, hb9, fun g o hgo => by
        subst hgo
        have h1 := (hown9.lt g rfl).1
        have h2 := HLE.out
        omega⟩

theorem rDistinct_calls (V : List (List UInt8)) (R : List RowL) (tv : Value) (w : World) (ht : TabA w tv V R) (h40 : R.length ≤ 40) :
    Calls Tryz.prog 45 #[tv] w fun e w' => ∃ uv, e = .returned uv ∧ TabA w' uv V (distP R) ∧ Below w.heap.size w w' :=
  (rDistinct_new V R tv w ht h40).mono fun _ _ ⟨va, n, vc, ra, m, rc, h1, h2, h3, h4, _⟩ => ⟨_, h1, ⟨va, n, vc, ra, m, rc, rfl, h2, h3⟩, h4⟩

end Go.Proofs.YtdnfaoanaehjhaaGreatDoor
