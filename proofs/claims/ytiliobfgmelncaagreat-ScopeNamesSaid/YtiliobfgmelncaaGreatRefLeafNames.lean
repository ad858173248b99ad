/- The variables of an operation that needs none: by the document's own answer. -/
import Derived.Test.YtiliobfgmelncaaGreatRefUnion
import Derived.Test.YtiliobfgmelncaaGreatRefScopeShape
namespace Go.Proofs.YtiliobfgmelncaaGreat
open Go.RowKit

def tpart (T : List TripL) : List (List UInt8) := T.foldl (fun acc t => unionO acc (varsL t)) []
theorem tpart_next {T : List TripL} {k : Nat} (hk : k < T.length) : tpart (T.take (k + 1)) = unionO (tpart (T.take k)) (varsL T[k]) := by
  unfold tpart
  rw [List.take_succ_eq_append_getElem hk, List.foldl_append]
  rfl
def kindAt (r : List TermL) (k : Nat) : Int := if h : k < r.length then r[k].k else 1
def lackZ (k : Nat) (r : List TermL) : Bool := kindAt r k == 0
theorem lack_next {R : List (List TermL)} {k j : Nat} (hj : j < R.length) : (R.take (j + 1)).any (lackZ k) = ((R.take j).any (lackZ k) || lackZ k R[j]) := by
  rw [List.take_succ_eq_append_getElem hj, List.any_append]
  simp
def vpart (R : List (List TermL)) (V : List (List UInt8)) (cert : Bool) (acc : List (List UInt8)) : Nat → List (List UInt8)
  | 0 => acc
  | k + 1 => if (!cert || !R.any (lackZ k)) = true then moreO (vpart R V cert acc k) (V.getD k []) else vpart R V cert acc k
theorem vpart_yes {R : List (List TermL)} {V : List (List UInt8)} {cert : Bool} {acc : List (List UInt8)} {k : Nat} (hk : k < V.length) (h : (!cert || !R.any (lackZ k)) = true) : vpart R V cert acc (k + 1) = moreO (vpart R V cert acc k) V[k] := by
  rw [vpart, if_pos h, List.getD_eq_getElem?_getD, List.getElem?_eq_getElem hk]; rfl
theorem vpart_no {R : List (List TermL)} {V : List (List UInt8)} {cert : Bool} {acc : List (List UInt8)} {k : Nat} (h : (!cert || !R.any (lackZ k)) = false) : vpart R V cert acc (k + 1) = vpart R V cert acc k := by
  rw [vpart, if_neg (by rw [h]; decide)]
theorem put_yes (c D : Bool) (h : (!c || !D) = true) : c = false ∨ (c = true ∧ D = false) := by cases c <;> cases D <;> simp_all
theorem put_no (c D : Bool) (h : (!c || !D) = false) : c = true ∧ D = true := by cases c <;> cases D <;> simp_all
def leafO (o : OpL) (cert : Bool) : List (List UInt8) := vpart o.R o.V cert (tpart o.T) o.V.length

set_option maxRecDepth 100000 in
set_option maxHeartbeats 16000000 in
theorem rleaf_calls (o : OpL) (A : OpS) (cert : Bool) (w : World) (hin : OpIn w o A) (ht : o.T.length ≤ 32) (hvl : o.V.length ≤ 32) (hrl : ∀ r ∈ o.R, r.length = o.V.length) :
    Calls Tryz.prog 59 #[o.v A, .bool cert] w (NamesT w (leafO o cert)) := by
  have HNEW := Lib.hid (fun T => OpBox.new w o A T)
  have HIN := Lib.hid hin
  have HTL := Lib.hid hin.t.len
  have HVL := Lib.hid hin.v.len
  have HRL := Lib.hid hin.r.len
  have HRR := Lib.hid hrl
  have tc1 := hin.t.cap
  have tc2 := hin.t.most
  have vc1 := hin.v.cap
  have vc2 := hin.v.most
  have rc1 := hin.r.cap
  have rc2 := hin.r.most
  unfold maxLen at tc2 vc2 rc2
  have HX := Lib.hid (show ∀ W, OpBox w o A W → Op7 W w.heap.size 0 o A from fun W h => h.1)
  have HLF := Lib.hid (show leafO o cert = vpart o.R o.V cert (tpart o.T) o.V.length from rfl)
  clear hin hrl
  obtain ⟨pk, T, V, R, F, m, s⟩ := o
  obtain ⟨ta, tn, tc, va, vn, vc, ra, rn, rc, fa, fn, fc⟩ := A
  simp only [Op7] at HX
  dsimp only at HNEW HTL HVL HRL HRR tc1 tc2 vc1 vc2 rc1 rc2 HX HLF ht hvl
  have ht2 : tn ≤ 32 := by rw [← HTL.out]; exact ht
  have hv2 : vn ≤ 32 := by rw [← HVL.out]; exact hvl
  clear ht hvl
  simp only [OpL.v]
  obtain ⟨d0, d1, d2, d3, d4, d5, d6⟩ := HX.out _ (HNEW.out 29)
  clear d0 d2 d3 d4 d5 d6
  go_enter Tryz.func59, Tryz.ntmps59
  go_wp2
  go_loopg [5, 6] tn (fun g v i wr => ∃ (k : Nat) (a' : Option Addr) (n' c' : Nat), i = .int .i64 k ∧ v = .slice a' n' c' ∧ k + g = tn ∧ n' ≤ 3 * k ∧ Hid (TxtA wr a' n' c' (tpart (T.take k))) ∧ Hid (OpBox w ⟨pk, T, V, R, F, m, s⟩ ⟨ta, tn, tc, va, vn, vc, ra, rn, rc, fa, fn, fc⟩ wr))
  case atStart => exact ⟨0, _, 0, 0, rfl, rfl, by omega, by omega, Lib.hid ⟨rfl, Nat.le_refl _, Nat.zero_le _, fun h => absurd h (by omega)⟩, Lib.hid ((HNEW.out _).on (box_below _ _))⟩
  case round =>
    obtain ⟨W1, rfl⟩ : ∃ W1, W1 = wr := ⟨_, rfl⟩
    obtain ⟨k, a', n', c', rfl, rfl, hkg, hn', HT, HB⟩ := hrel
    obtain ⟨c0, c1, c2, c3, c4, c5, c6⟩ := HX.out _ HB.out
    have hlt := HB.out.2.2
    by_cases hk : k < tn
    · obtain ⟨gg, rfl⟩ : ∃ gg, gk = gg + 1 := ⟨gk - 1, by omega⟩
      have hkL : k < T.length := by rw [HTL.out]; exact hk
      obtain ⟨g, o, ha, hgw, hcells⟩ := HIN.out.t.cells (by show 0 < tn; omega)
      dsimp only at ha
      subst ha
      have hbW := HB.out.2.1
      have hgW : g < W1.heap.size := Nat.lt_of_lt_of_le hgw hbW.size
      obtain ⟨hs, hp, ho⟩ := hcells k hkL
      obtain ⟨e0, e1, e2, e3⟩ := hs.on hbW hgw
      obtain ⟨e4, e5, e6, e7⟩ := hp.on hbW hgw
      obtain ⟨e8, e9, e10, e11⟩ := ho.on hbW hgw
      have HNX := Lib.hid (tpart_next hkL)
      have HV3 := Lib.hid (varsL_length T[k])
      clear hcells hs hp ho hbW
      dsimp only at e0 e1 e2 e3 e4 e5 e6 e7 e8 e9 e10 e11
      generalize T[k] = t at e0 e1 e2 e3 e4 e5 e6 e7 e8 e9 e10 e11 HNX HV3
      have HVR := Lib.hid (show ∀ W, Calls Tryz.prog 81 #[t.v] W fun e w' => ∃ v, e = .returned v ∧ w'.ownsRow W.heap.size 9 1 v (varsL t).length (textCells (varsL t)) ∧ Below W.heap.size W w' from fun W => rVars_calls t W)
      obtain ⟨VL, hVL⟩ : ∃ l, varsL t = l := ⟨_, rfl⟩
      rw [hVL] at HVR HNX HV3
      clear hVL
      obtain ⟨⟨k1, x1, y1, z1⟩, ⟨k2, x2, y2, z2⟩, ⟨k3, x3, y3, z3⟩⟩ := t
      simp only [TripL.v] at HVR
      dsimp only at e0 e1 e2 e3 e4 e5 e6 e7 e8 e9 e10 e11
      have k0 : (0 : Int) ≤ (k : Int) := by omega
      have kk : (k : Int) < (tn : Int) := by omega
      go_wp2_with fail
      refine (HVR.out _).mono ?_
      rintro e w2 ⟨v2, rfl, hown2, hb2⟩
      obtain ⟨a2, q2, rfl, ht2'⟩ := txtA_own hown2
      have HUN := Lib.hid (runion_calls _ VL a' a2 n' c' VL.length q2 w2 (HT.out.on hb2) ht2' (by have := HV3.out; omega))
      have HB2 := Lib.hid (HB.out.on hb2)
      rw [← HNX.out] at HUN
      have HLN := Lib.hid (show (tpart (T.take (k + 1))).length ≤ 3 * (k + 1) by have h1 := unionO_length (tpart (T.take k)) VL; rw [HNX.out]; have h2 := HT.out.len; have h3 := HV3.out; omega)
      clear hown2 hb2 ht2'
      go_wp2_with fail
      refine HUN.out.mono ?_
      rintro e w3 ⟨a3, q3, rfl, ht3, hb3⟩
      have HT3 := Lib.hid ht3
      have HB3 := Lib.hid (HB2.out.on hb3)
      clear ht3 hb3
      obtain ⟨n3, hn3⟩ : ∃ n3, (tpart (T.take (k + 1))).length = n3 := ⟨_, rfl⟩
      rw [hn3] at HT3 HLN ⊢
      clear hn3
      go_wp2
      go_roundg gg
      case measure => omega
      case rel => exact ⟨k + 1, a3, n3, q3, by go_num, rfl, by omega, HLN.out, HT3, HB3⟩
    · have hkm : k = tn := by omega
      have kk : ¬ (k : Int) < (tn : Int) := by omega
      have HE := Lib.hid (show T.take k = T from List.take_of_length_le (by rw [HTL.out]; omega))
      rw [HE.out] at HT
      clear hkm
      go_wp2
      have HLT := Lib.hid HT.out.len
      clear c0 c1 c2 c3 c4 c5 c6 hlt
      go_loopg [5, 7] vn (fun g v i wr => ∃ (k : Nat) (a' : Option Addr) (n' c' : Nat), i = .int .i64 k ∧ v = .slice a' n' c' ∧ k + g = vn ∧ n' ≤ 96 + k ∧ Hid (TxtA wr a' n' c' (vpart R V cert (tpart T) k)) ∧ Hid (OpBox w ⟨pk, T, V, R, F, m, s⟩ ⟨ta, tn, tc, va, vn, vc, ra, rn, rc, fa, fn, fc⟩ wr))
      case atStart => exact ⟨0, a', n', c', rfl, rfl, by omega, by omega, HT, HB⟩
      case round =>
        obtain ⟨W2, rfl⟩ : ∃ W2, W2 = wr := ⟨_, rfl⟩
        obtain ⟨i, a5, n5, q5, rfl, rfl, hig, hn5, HT5, HB5⟩ := hrel
        obtain ⟨c0, c1, c2, c3, c4, c5, c6⟩ := HX.out _ HB5.out
        have hlt := HB5.out.2.2
        by_cases hi : i < vn
        · obtain ⟨gg, rfl⟩ : ∃ gg, gk = gg + 1 := ⟨gk - 1, by omega⟩
          have hiL : i < V.length := by rw [HVL.out]; exact hi
          obtain ⟨vg, vo, hva, hvgw, hvcells⟩ := HIN.out.v.cells (by show 0 < vn; omega)
          dsimp only at hva
          subst hva
          have hvgW : vg < W2.heap.size := Nat.lt_of_lt_of_le hvgw HB5.out.2.1.size
          have v0 := (HB5.out.2.1.cell (p := ⟨vg, vo + i, none⟩) hvgw).trans (hvcells i hiL)
          have HYES := Lib.hid (fun h => vpart_yes (R := R) (cert := cert) (acc := tpart T) hiL h)
          have HNO := Lib.hid (fun h => vpart_no (R := R) (V := V) (cert := cert) (acc := tpart T) (k := i) h)
          clear hvcells
          dsimp only at v0
          generalize V[i] = y at v0 HYES
          have i0 : (0 : Int) ≤ (i : Int) := by omega
          have i1 : (i : Int) < (vn : Int) := by omega
          go_wp2
          go_loopg [8, 9] rn (fun gh b i2 wr => ∃ (j : Nat) (D : Bool), i2 = .int .i64 j ∧ b = .bool D ∧ j + gh = rn ∧ Hid ((R.take j).any (lackZ i) = D) ∧ wr = W2)
          case atStart => exact ⟨0, false, rfl, rfl, by omega, Lib.hid rfl, rfl⟩
          case round =>
            obtain ⟨j, D, rfl, rfl, hjg, HD, rfl⟩ := hrel
            by_cases hj : j < rn
            · obtain ⟨hh, rfl⟩ : ∃ hh, gk = hh + 1 := ⟨gk - 1, by omega⟩
              have hjL : j < R.length := by rw [HRL.out]; exact hj
              have HLX := Lib.hid (lack_next (k := i) hjL)
              rw [HD.out] at HLX
              cases D with
              | true =>
                go_wp2
                go_roundg hh
                case measure => omega
                case rel => exact ⟨j + 1, true, by go_num, rfl, by omega, Lib.hid (by rw [HLX.out]; rfl), rfl⟩
              | false =>
                obtain ⟨rg, ro, hra, hrgw, hrcells⟩ := HIN.out.r.cells (by show 0 < rn; omega)
                dsimp only at hra
                subst hra
                obtain ⟨ra', rc', hrc, htrm⟩ := hrcells j hjL
                dsimp only at hrc htrm
                have hrlen := HRR.out _ (List.getElem_mem hjL)
                rw [HVL.out] at hrlen
                have hrgW : rg < wr.heap.size := Nat.lt_of_lt_of_le hrgw HB5.out.2.1.size
                have r0 := (HB5.out.2.1.cell (p := ⟨rg, ro + j, none⟩) hrgw).trans hrc
                have hK : kindAt R[j] i = R[j][i].k := by unfold kindAt; rw [dif_pos (by omega)]
                obtain ⟨tg, tq, hta, htgw, htcells⟩ := htrm.cells (by omega)
                subst hta
                have htgW : tg < wr.heap.size := Nat.lt_of_lt_of_le htgw HB5.out.2.1.size
                have t0 := (HB5.out.2.1.cell (p := ⟨tg, tq + i * 4, none⟩) htgw).trans (htcells i (by omega)).1
                rw [← hK] at t0
                have HRJ := Lib.hid hrlen
                rw [hrlen] at r0
                have hlk : lackZ i R[j] = (kindAt R[j] i == 0) := rfl
                rw [hlk] at HLX
                clear hrc htrm hrcells hK htcells hlk hrlen
                generalize kindAt R[j] i = K at t0 HLX
                obtain ⟨z, hz⟩ : ∃ z, (K == 0) = z := ⟨_, rfl⟩
                rw [hz] at HLX
                have j0 : (0 : Int) ≤ (j : Int) := by omega
                have j1 : (j : Int) < (rn : Int) := by omega
                go_wp2
                go_roundg hh
                case measure => omega
                case rel => exact ⟨j + 1, z, by go_num, rfl, by omega, Lib.hid (by rw [HLX.out]; rfl), rfl⟩
            · have jj : ¬ (j : Int) < (rn : Int) := by omega
              have HEJ := Lib.hid (show R.take j = R from List.take_of_length_le (by rw [HRL.out]; omega))
              rw [HEJ.out] at HD
              rw [HD.out] at HYES HNO
              obtain ⟨u, hu⟩ : ∃ u, (!cert || !D) = u := ⟨_, rfl⟩
              rw [hu] at HYES HNO
              cases u with
              | true =>
                have HNX := Lib.hid (HYES.out rfl)
                clear HYES HNO
                have HMR := Lib.hid (rmore_calls _ y a5 n5 q5 wr HT5.out (by omega))
                rw [← HNX.out] at HMR
                have HLN := Lib.hid (show (vpart R V cert (tpart T) (i + 1)).length ≤ 96 + (i + 1) by have h1 := moreO_length (vpart R V cert (tpart T) i) y; rw [HNX.out]; have h2 := HT5.out.len; omega)
                have hcd := put_yes cert D hu
                clear hu
                rcases hcd with rfl | ⟨rfl, rfl⟩
                all_goals
                  go_wp2_with fail
                  refine HMR.out.mono ?_
                  rintro e w3 ⟨a3, q3, rfl, ht3, hb3⟩
                  have HT3 := Lib.hid ht3
                  have HB3 := Lib.hid (HB5.out.on hb3)
                  clear ht3 hb3
                  generalize (vpart R V _ (tpart T) (i + 1)).length = n3 at HT3 HLN ⊢
                  go_wp2
                  go_roundg gg
                  case measure => omega
                  case rel => exact ⟨i + 1, a3, n3, q3, by go_num, rfl, by omega, HLN.out, HT3, HB3⟩
              | false =>
                have HNX := Lib.hid (HNO.out rfl)
                clear HYES HNO
                have hcd := put_no cert D hu
                clear hu
                obtain ⟨rfl, rfl⟩ := hcd
                go_wp2
                go_roundg gg
                case measure => omega
                case rel => exact ⟨i + 1, a5, n5, q5, by go_num, rfl, by omega, by omega, Lib.hid (by rw [HNX.out]; exact HT5.out), HB5⟩
        · have hiv : i = vn := by omega
          have ii : ¬ (i : Int) < (vn : Int) := by omega
          have HEV := Lib.hid (show leafO ⟨pk, T, V, R, F, m, s⟩ cert = vpart R V cert (tpart T) i by rw [HLF.out, HVL.out, hiv])
          have HLE := Lib.hid HT5.out.len
          clear hiv
          go_wp2
          refine bodyPost_ret (v := .slice a5 n5 q5) (by simp [results, Tryz.results59, go_sem]) rfl ⟨a5, q5, by rw [HEV.out, HLE.out], by rw [HEV.out, HLE.out]; exact HT5.out, HB5.out.2.1⟩

end Go.Proofs.YtiliobfgmelncaaGreat
