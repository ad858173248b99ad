/- Which of two rows is ahead, by keys, then by all: the document's place, Before (written by gen/mkbefore12.py). -/
import Derived.Test.YtkfemnjblbnclaaGreatDoorShpRefCmp
import Derived.Test.YtkfemnjblbnclaaGreatDoorShpRanks
import Derived.Test.YtkfemnjblbnclaaGreatDoorGSameT
import Derived.Test.YtkfemnjblbnclaaGreatDoorShpLine
namespace Go.Proofs.YtkfemnjblbnclaaGreatDoor
open Go.RowKit Go.Sort

def placeZ (V : List (List UInt8)) (x : List UInt8) : Int := match placeP V x with
  | some i => i
  | none => -1
theorem placeZ_at {V : List (List UInt8)} {x : List UInt8} {k : Nat} (hk : k < V.length) (hx : V[k] = x) (hn : ¬ x ∈ V.take k) : placeZ V x = k := by
  have hp : placeP V x = some k := place_first hk hx (fun j hj e => hn (by rw [← e]; exact List.mem_iff_getElem.2 ⟨j, by rw [List.length_take]; omega, by rw [List.getElem_take]⟩))
  unfold placeZ
  rw [hp]
theorem placeZ_out {V : List (List UInt8)} {x : List UInt8} (h : ¬ x ∈ V) : placeZ V x = -1 := by
  unfold placeZ
  rw [place_none.2 h]
set_option maxRecDepth 100000 in
set_option maxHeartbeats 2000000 in
theorem rPlace_calls (L : List (List UInt8)) (x : List UInt8) (a : Option Addr) (n c : Nat) (w : World) (h : TxtA w a n c L) :
    Calls Tryz.prog 59 #[.slice a n c, .string (bs x)] w fun e w' => e = .returned (.int .i64 (placeZ L x)) ∧ w' = w := by
  have hn := h.len
  have hc := h.cap
  have hm := h.most
  have HX := Lib.hid h.cells
  have HN := Lib.hid hn
  have HAT := Lib.hid (fun k (hk : k < L.length) => placeZ_at (x := x) hk)
  have HOUT := Lib.hid (placeZ_out (V := L) (x := x))
  generalize placeZ L x = Z at HAT HOUT ⊢
  clear h hn
  unfold maxLen at hm
  go_enter Tryz.func59, Tryz.ntmps59
  go_wp2
  go_loop [5] (fun i => ∃ k : Nat, k ≤ n ∧ i = .int .i64 k ∧ Hid (¬ x ∈ L.take k)) (fun i => n - (intOf i).toNat)
  case atStart => exact ⟨0, Nat.zero_le _, rfl, by show ¬ _; simp⟩
  case round =>
    obtain ⟨k, hk, rfl, hno⟩ := hrel
    by_cases hlt : k < n
    · have hlt' : k < L.length := by rw [HN.out]; exact hlt
      obtain ⟨g, o, ha, hgw, hcells⟩ := HX.out (by omega)
      subst ha
      have hc := hcells k hlt'
      have HA2 := Lib.hid (HAT.out k hlt')
      clear hcells HAT
      have hts : x ∈ L.take (k + 1) ↔ x ∈ L.take k ∨ x = L[k] := by rw [List.take_succ_eq_append_getElem hlt', List.mem_append, List.mem_singleton]
      generalize L[k] = y at hc hts HA2
      by_cases he : y = x
      · have HE := Lib.hid (HA2.out he hno.out)
        have heq : (bs y).toList = (bs x).toList := by rw [he]
        clear hts HA2 HOUT he
        go_wp2
        go_ret
        exact ⟨ret_int HE.out.symm, rfl⟩
      · have HNX := Lib.hid (show ¬ x ∈ L.take (k + 1) from fun c => (hts.1 c).elim hno.out (fun e => he e.symm))
        have hne : ((bs y).toList == (bs x).toList) = false := by rw [bs_toList, bs_toList]; exact beq_eq_false_iff_ne.2 he
        clear hts HA2 HOUT he
        go_wp2
        exact ⟨⟨k + 1, by omega, by go_num, HNX⟩, by simp [intOf]; omega⟩
    · have HE := Lib.hid (HOUT.out (by have := hno.out; rwa [List.take_of_length_le (by rw [HN.out]; omega)] at this))
      clear HOUT HAT
      go_wp2
      go_ret
      exact ⟨ret_int HE.out.symm, rfl⟩

theorem keys_next {V : List (List UInt8)} {K : List KeyL} {k n : Nat} (hk : k < K.length) (x y : RowL) : rowP (colsP V (K.drop k) ++ allC n) x y = match placeP V K[k].n with
    | some i => if valP (x.getD i nilT) (y.getD i nilT) = 0 then rowP (colsP V (K.drop (k + 1)) ++ allC n) x y else turnZ K[k].d (valP (x.getD i nilT) (y.getD i nilT))
    | none => rowP (colsP V (K.drop (k + 1)) ++ allC n) x y := by
  rw [List.drop_eq_getElem_cons hk]
  unfold colsP
  cases hp : placeP V K[k].n with
  | none => rw [List.filterMap_cons_none (by rw [hp]; rfl)]
  | some i => rw [List.filterMap_cons_some (by rw [hp]; rfl), List.cons_append, rowP_cons]
theorem keys_end (V : List (List UInt8)) (K : List KeyL) (n : Nat) (x y : RowL) : rowP (colsP V (K.drop K.length) ++ allC n) x y = rowP ((allC n).drop 0) x y := by
  rw [List.drop_length]; rfl
theorem all_row {n k : Nat} (hk : k < n) (x y : RowL) (hx : k < x.length) (hy : k < y.length) : rowP ((allC n).drop k) x y = if valP x[k] y[k] = 0 then rowP ((allC n).drop (k + 1)) x y else valP x[k] y[k] := by
  have hl : k < (allC n).length := by simp [allC]; exact hk
  rw [List.drop_eq_getElem_cons hl, rowP_cons]
  have e : (allC n)[k] = (k, false) := by simp [allC]
  rw [e]
  dsimp only
  rw [getD_at x k hx, getD_at y k hy]
  rfl

set_option maxRecDepth 100000 in
set_option maxHeartbeats 8000000 in
theorem rBefore_calls (V : List (List UInt8)) (K : List KeyL) (x y : RowL) (hxo : ∀ t ∈ x, t.ok) (hyo : ∀ t ∈ y, t.ok) (va : Option Addr) (n vc : Nat) (ka : Option Addr) (m kc : Nat) (xa : Option Addr) (xc : Nat) (ya : Option Addr) (yc : Nat) (w : World)
    (hV : TxtA w va n vc V) (hK : KeyA w ka m kc K) (hX : TrmA w xa n xc x) (hY : TrmA w ya n yc y) :
    Calls Tryz.prog 32 #[.slice va n vc, .slice ka m kc, .slice xa n xc, .slice ya n yc] w fun e w' => e = .returned (.int .i64 (aheadP V K x y)) ∧ Below w.heap.size w w' := by
  have HV := Lib.hid hV
  have HK := Lib.hid hK
  have HX := Lib.hid hX
  have HY := Lib.hid hY
  have HXO := Lib.hid hxo
  have HYO := Lib.hid hyo
  have HVL := Lib.hid hV.len
  have HKL := Lib.hid hK.len
  have HXL := Lib.hid hX.len
  have HYL := Lib.hid hY.len
  have c1 := hK.cap
  have c2 := hK.most
  have c3 := hX.cap
  have c4 := hX.most
  have c5 := hY.cap
  have c6 := hY.most
  have c7 := hV.cap
  have c8 := hV.most
  unfold maxLen at c2 c4 c6 c8
  have HZ0 := Lib.hid (show aheadP V K x y = rowP (colsP V (K.drop 0) ++ allC n) x y by unfold aheadP rankP; rw [List.drop_zero, hV.len])
  generalize aheadP V K x y = Z at HZ0 ⊢
  clear hV hK hX hY hxo hyo
  go_enter Tryz.func32, Tryz.ntmps32
  go_wp2
  go_loopg [9, 10, 11] m (fun g i _ _ wr => ∃ k : Nat, i = .int .i64 k ∧ k + g = m ∧ Hid (Z = rowP (colsP V (K.drop k) ++ allC n) x y) ∧ Hid (Below w.heap.size w wr))
  case atStart => exact ⟨0, rfl, by omega, HZ0, Lib.hid (Below.refl _ _)⟩
  case round =>
    obtain ⟨W1, rfl⟩ : ∃ W1, W1 = wr := ⟨_, rfl⟩
    obtain ⟨k, rfl, hkg, HZ, HBW⟩ := hrel
    by_cases hkm : k < m
    · obtain ⟨gg, rfl⟩ : ∃ gg, gk = gg + 1 := ⟨gk - 1, by omega⟩
      have hkK : k < K.length := by rw [HKL.out]; exact hkm
      obtain ⟨g, o, ha, hgw, hcells⟩ := HK.out.cells (by omega)
      subst ha
      have s0 := keptC (hcells k hkK).1 HBW.out hgw
      have s1 := keptC (hcells k hkK).2 HBW.out hgw
      have HNX := Lib.hid (HZ.out.trans (keys_next (V := V) (n := n) hkK x y))
      clear hcells HZ HZ0
      have hlt := fun i (h : placeP V K[k].n = some i) => (place_lt h).1
      have hpl := rPlace_calls V K[k].n va n vc W1 (HV.out.on HBW.out)
      generalize K[k] = key at s0 s1 HNX hpl hlt
      obtain ⟨nm, dd⟩ := key
      dsimp only at s0 s1 HNX hpl hlt
      have hgW : g < W1.heap.size := Nat.lt_of_lt_of_le hgw HBW.out.size
      have k0 : (0 : Int) ≤ (k : Int) := by omega
      have k1 : (k : Int) < (m : Int) := by omega
      cases hp : placeP V nm with
      | none =>
        have hpz : placeZ V nm = -1 := by unfold placeZ; rw [hp]
        rw [hpz] at hpl
        have HPL := Lib.hid hpl
        rw [hp] at HNX
        dsimp only at HNX
        clear hpl hp hpz hlt
        go_wp2_with fail
        refine HPL.out.mono ?_
        rintro e w2 ⟨rfl, rfl⟩
        go_wp2
        go_roundg gg
        case measure => omega
        case rel => exact ⟨k + 1, by go_num, by omega, HNX, HBW⟩
      | some i =>
        have hpz : placeZ V nm = i := by unfold placeZ; rw [hp]
        rw [hpz] at hpl
        have HPL := Lib.hid hpl
        rw [hp] at HNX
        have hiV := hlt i hp
        have hin : i < n := by rw [← HVL.out]; exact hiV
        have hix : i < x.length := by rw [HXL.out]; exact hin
        have hiy : i < y.length := by rw [HYL.out]; exact hin
        dsimp only at HNX
        rw [getD_at x i hix, getD_at y i hiy] at HNX
        clear hpl hp hpz hlt hiV
        obtain ⟨g1, o1, ha1, hgw1, hcells1⟩ := HX.out.cells (by omega)
        obtain ⟨g2, o2, ha2, hgw2, hcells2⟩ := HY.out.cells (by omega)
        subst ha1 ha2
        obtain ⟨d0, d1, d2, d3⟩ := (hcells1 i hix).on HBW.out hgw1
        obtain ⟨p0, p1, p2, p3⟩ := (hcells2 i hiy).on HBW.out hgw2
        have hrv := fun W => rValue_calls x[i] y[i] (HXO.out _ (List.getElem_mem hix)) (HYO.out _ (List.getElem_mem hiy)) W
        have HRG := Lib.hid (valP_range x[i] y[i])
        clear hcells1 hcells2
        generalize x[i] = tx at d0 d1 d2 d3 hrv HNX HRG
        generalize y[i] = ty at p0 p1 p2 p3 hrv HNX HRG
        generalize valP tx ty = z at hrv HNX HRG
        obtain ⟨xk, xx, xy, xz⟩ := tx
        obtain ⟨yk, yx, yy, yz⟩ := ty
        simp only [TermL.v] at hrv
        dsimp only at d0 d1 d2 d3 p0 p1 p2 p3
        have HRV := Lib.hid hrv
        have hrg := HRG.out
        clear hrv
        go_wp2_with fail
        refine HPL.out.mono ?_
        rintro e w2 ⟨rfl, rfl⟩
        have f0 := regrown_cell d0
        have f1 := regrown_cell d1
        have f2 := regrown_cell d2
        have f3 := regrown_cell d3
        have f4 := regrown_cell p0
        have f5 := regrown_cell p1
        have f6 := regrown_cell p2
        have f7 := regrown_cell p3
        have cV := fun d os => Calls.regrown_of (HRV.out (grow (redrawn w2 d) os))
        go_wp2_with fail
        refine wp_region_quiet_below (by kernel_rfl) (by kernel_rfl) ?_
        quiet_step (exact cV _ _)
        quiet_step (exact cV _ _)
        quiet_step (exact cV _ _)
        quiet_step (exact cV _ _)
        quiet_step (exact cV _ _)
        quiet_step (exact cV _ _)
        quiet_step (exact cV _ _)
        quiet_step (exact cV _ _)
        quiet_step (exact cV _ _)
        quiet_step (fail)
        refine wpQuiet_nil ?_
        intro W3 hw'
        obtain ⟨⟨dq, osq⟩, hw''⟩ := hw'
        have HB3 := Lib.hid (fb2 HBW.out (show Below w2.heap.size w2 W3 by rw [hw'']; exact below_regrown w2 dq osq) (Nat.le_refl _))
        have hb3 : Below w2.heap.size w2 W3 := by rw [hw'']; exact below_regrown w2 dq osq
        have s2 := keptC s1 hb3 hgW
        clear hw'' hb3 f0 f1 f2 f3 f4 f5 f6 f7 cV d0 d1 d2 d3 p0 p1 p2 p3 s0 s1
        cases dd
        all_goals rcases hrg with rfl | rfl | rfl
        · have hz : Z = -1 := HNX.out.trans (if_neg (by omega))
          clear HNX
          go_wp2
          go_ret
          exact ⟨ret_int (by first | rfl | exact hz.symm), HB3.out⟩
        · have HZ2 := Lib.hid (HNX.out.trans (if_pos rfl))
          clear HNX
          go_wp2
          go_roundg gg
          case measure => omega
          case rel => exact ⟨k + 1, by go_num, by omega, HZ2, HB3⟩
        · have hz : Z = 1 := HNX.out.trans (if_neg (by omega))
          clear HNX
          go_wp2
          go_ret
          exact ⟨ret_int (by first | rfl | exact hz.symm), HB3.out⟩
        · have hz : Z = 1 := HNX.out.trans (if_neg (by omega))
          clear HNX
          go_wp2
          go_ret
          exact ⟨ret_int (by first | rfl | exact hz.symm), HB3.out⟩
        · have HZ2 := Lib.hid (HNX.out.trans (if_pos rfl))
          clear HNX
          go_wp2
          go_roundg gg
          case measure => omega
          case rel => exact ⟨k + 1, by go_num, by omega, HZ2, HB3⟩
        · have hz : Z = -1 := HNX.out.trans (if_neg (by omega))
          clear HNX
          go_wp2
          go_ret
          exact ⟨ret_int (by first | rfl | exact hz.symm), HB3.out⟩
    · have hkm2 : k = K.length := by rw [HKL.out]; omega
      have HZ2 := Lib.hid (show Z = rowP ((allC n).drop 0) x y from HZ.out.trans (by rw [hkm2]; exact keys_end V K n x y))
      have k1 : ¬ (k : Int) < (m : Int) := by omega
      clear HZ HZ0 hkm2
      go_wp2
      go_loopg [12] n (fun g i wr => ∃ j : Nat, i = .int .i64 j ∧ j + g = n ∧ Hid (Z = rowP ((allC n).drop j) x y) ∧ Hid (Below w.heap.size w wr))
      case atStart => exact ⟨0, rfl, by omega, HZ2, HBW⟩
      case round =>
        obtain ⟨W2, rfl⟩ : ∃ W2, W2 = wr := ⟨_, rfl⟩
        clear HBW HZ2
        obtain ⟨j, rfl, hjg, HZ, HBW⟩ := hrel
        have k2 : (0 : Int) ≤ (j : Int) := by omega
        by_cases hjn : j < n
        · obtain ⟨gg, rfl⟩ : ∃ gg, gk = gg + 1 := ⟨gk - 1, by omega⟩
          have hjx : j < x.length := by rw [HXL.out]; exact hjn
          have hjy : j < y.length := by rw [HYL.out]; exact hjn
          have HNX := Lib.hid (HZ.out.trans (all_row hjn x y hjx hjy))
          have k3 : (j : Int) < (n : Int) := by omega
          clear HZ
          obtain ⟨g1, o1, ha1, hgw1, hcells1⟩ := HX.out.cells (by omega)
          obtain ⟨g2, o2, ha2, hgw2, hcells2⟩ := HY.out.cells (by omega)
          subst ha1 ha2
          obtain ⟨d0, d1, d2, d3⟩ := (hcells1 j hjx).on HBW.out hgw1
          obtain ⟨p0, p1, p2, p3⟩ := (hcells2 j hjy).on HBW.out hgw2
          have hrv := fun W => rValue_calls x[j] y[j] (HXO.out _ (List.getElem_mem hjx)) (HYO.out _ (List.getElem_mem hjy)) W
          have HRG := Lib.hid (valP_range x[j] y[j])
          clear hcells1 hcells2
          generalize x[j] = tx at d0 d1 d2 d3 hrv HNX HRG
          generalize y[j] = ty at p0 p1 p2 p3 hrv HNX HRG
          generalize valP tx ty = z at hrv HNX HRG
          obtain ⟨xk, xx, xy, xz⟩ := tx
          obtain ⟨yk, yx, yy, yz⟩ := ty
          simp only [TermL.v] at hrv
          dsimp only at d0 d1 d2 d3 p0 p1 p2 p3
          have HRV := Lib.hid hrv
          have hrg := HRG.out
          clear hrv
          have f0 := regrown_cell d0
          have f1 := regrown_cell d1
          have f2 := regrown_cell d2
          have f3 := regrown_cell d3
          have f4 := regrown_cell p0
          have f5 := regrown_cell p1
          have f6 := regrown_cell p2
          have f7 := regrown_cell p3
          have cV := fun d os => Calls.regrown_of (HRV.out (grow (redrawn W2 d) os))
          go_wp2_with fail
          refine wp_region_quiet_below (by kernel_rfl) (by kernel_rfl) ?_
          quiet_step (exact cV _ _)
          quiet_step (exact cV _ _)
          quiet_step (exact cV _ _)
          quiet_step (exact cV _ _)
          quiet_step (exact cV _ _)
          quiet_step (exact cV _ _)
          quiet_step (exact cV _ _)
          quiet_step (exact cV _ _)
          quiet_step (exact cV _ _)
          quiet_step (fail)
          refine wpQuiet_nil ?_
          intro W3 hw'
          obtain ⟨⟨dq, osq⟩, hw''⟩ := hw'
          have HB3 := Lib.hid (fb2 HBW.out (show Below W2.heap.size W2 W3 by rw [hw'']; exact below_regrown W2 dq osq) (Nat.le_refl _))
          have hb3 : Below W2.heap.size W2 W3 := by rw [hw'']; exact below_regrown W2 dq osq
          clear hw'' f0 f1 f2 f3 f4 f5 f6 f7 cV
          by_cases hz0 : z = 0
          · have HZ2 := Lib.hid (HNX.out.trans (if_pos hz0))
            have gz : (z != 0) = false := by rw [hz0]; rfl
            clear HNX hz0 d0 d1 d2 d3 p0 p1 p2 p3 hb3 hrg HRG
            go_wp2
            go_roundg gg
            case measure => omega
            case rel => exact ⟨j + 1, by go_num, by omega, HZ2, HB3⟩
          · have HE := Lib.hid (HNX.out.trans (if_neg hz0))
            have gz : (z != 0) = true := bne_iff_ne.2 hz0
            replace d0 := keptC d0 hb3 (Nat.lt_of_lt_of_le hgw1 HBW.out.size)
            replace d1 := keptC d1 hb3 (Nat.lt_of_lt_of_le hgw1 HBW.out.size)
            replace d2 := keptC d2 hb3 (Nat.lt_of_lt_of_le hgw1 HBW.out.size)
            replace d3 := keptC d3 hb3 (Nat.lt_of_lt_of_le hgw1 HBW.out.size)
            replace p0 := keptC p0 hb3 (Nat.lt_of_lt_of_le hgw2 HBW.out.size)
            replace p1 := keptC p1 hb3 (Nat.lt_of_lt_of_le hgw2 HBW.out.size)
            replace p2 := keptC p2 hb3 (Nat.lt_of_lt_of_le hgw2 HBW.out.size)
            replace p3 := keptC p3 hb3 (Nat.lt_of_lt_of_le hgw2 HBW.out.size)
            clear HNX hz0 hb3 HBW
            have HBW := HB3
            have f0 := regrown_cell d0
            have f1 := regrown_cell d1
            have f2 := regrown_cell d2
            have f3 := regrown_cell d3
            have f4 := regrown_cell p0
            have f5 := regrown_cell p1
            have f6 := regrown_cell p2
            have f7 := regrown_cell p3
            have cV := fun d os => Calls.regrown_of (HRV.out (grow (redrawn W3 d) os))
            go_wp2_with fail
            refine wp_region_quiet_below (by kernel_rfl) (by kernel_rfl) ?_
            quiet_step (exact cV _ _)
            quiet_step (exact cV _ _)
            quiet_step (exact cV _ _)
            quiet_step (exact cV _ _)
            quiet_step (exact cV _ _)
            quiet_step (exact cV _ _)
            quiet_step (exact cV _ _)
            quiet_step (exact cV _ _)
            quiet_step (exact cV _ _)
            quiet_step (fail)
            refine wpQuiet_nil ?_
            intro W4 hw'
            obtain ⟨⟨dq, osq⟩, hw''⟩ := hw'
            have HB4 := Lib.hid (fb2 HBW.out (show Below W3.heap.size W3 W4 by rw [hw'']; exact below_regrown W3 dq osq) (Nat.le_refl _))
            clear hw'' f0 f1 f2 f3 f4 f5 f6 f7 cV
            go_wp2
            go_ret
            exact ⟨ret_int HE.out.symm, HB4.out⟩
        · have hz : Z = 0 := by rw [HZ.out, List.drop_eq_nil_of_le (by simp [allC]; omega)]; rfl
          have k3 : ¬ (j : Int) < (n : Int) := by omega
          go_wp2
          go_ret
          exact ⟨ret_int (by first | rfl | exact hz.symm), HBW.out⟩

end Go.Proofs.YtkfemnjblbnclaaGreatDoor
