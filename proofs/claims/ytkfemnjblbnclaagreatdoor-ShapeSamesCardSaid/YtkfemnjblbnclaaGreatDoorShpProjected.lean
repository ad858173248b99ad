/- Some columns of a right table's rows, in new memory: package shape's projected (written by gen/mkprojected12.py). -/
import Derived.Test.YtkfemnjblbnclaaGreatDoorShpCopied
import Derived.Test.YtkfemnjblbnclaaGreatDoorGCount
import Derived.Test.YtkfemnjblbnclaaGreatDoorGMap
import Derived.Test.YtkfemnjblbnclaaGreatDoorShpLine
namespace Go.Proofs.YtkfemnjblbnclaaGreatDoor
open Go.RowKit Go.Maps

theorem row_at {V U : List (List UInt8)} {R : List RowL} {j i : Nat} (hj : j < R.length) (hi : i < U.length) : ((projP U V R).getD j [])[i]? = some (boundP V R[j] U[i]) := by
  unfold projP projR
  rw [List.getD_eq_getElem?_getD, List.getElem?_map, List.getElem?_eq_getElem hj]
  simp [hi]
/- the columns before i are filled in, of column i the first j rows; all else is nothing -/
def ProjF (V U : List (List UInt8)) (R : List RowL) (L : List TermL) (i j : Nat) : Prop := ∀ j' i' (hj : j' < R.length) (hi : i' < U.length), L[j' * U.length + i']? = some (if i' < i ∨ (i' = i ∧ j' < j) then boundP V R[j'] U[i'] else nilT)
theorem prj_zero (V U : List (List UInt8)) (R : List RowL) : ProjF V U R (List.replicate (R.length * U.length) nilT) 0 0 := by
  intro j' i' hj hi
  have h := row_fits hj hi
  rw [if_neg (by omega), List.getElem?_replicate, if_pos h]
theorem prj_all {V U : List (List UInt8)} {R : List RowL} {L : List TermL} {i : Nat} (h : ProjF V U R L i 0) (hi : U.length ≤ i) : Fill (projP U V R) L U.length R.length := by
  intro j hj i' hi'
  rw [h j i' hj hi', if_pos (.inl (by omega)), row_at hj hi']
theorem prj_col {V U : List (List UInt8)} {R : List RowL} {L : List TermL} {i : Nat} (h : ProjF V U R L i R.length) : ProjF V U R L (i + 1) 0 := by
  intro j' i' hj hi
  rw [h j' i' hj hi]
  congr 1
  by_cases e : i' < i ∨ (i' = i ∧ j' < R.length)
  · rw [if_pos e, if_pos (.inl (by omega))]
  · rw [if_neg e, if_neg (by omega)]
theorem prj_none {V U : List (List UInt8)} {R : List RowL} {L : List TermL} {i : Nat} (h : ProjF V U R L i 0) (hi : i < U.length) (hn : placeP V U[i] = none) : ProjF V U R L (i + 1) 0 := by
  intro j' i' hj hi'
  rw [h j' i' hj hi']
  congr 1
  by_cases e : i' = i
  · subst e
    rw [if_neg (by omega), if_pos (.inl (by omega))]
    unfold boundP
    rw [hn]
  · by_cases e2 : i' < i
    · rw [if_pos (.inl e2), if_pos (.inl (by omega))]
    · rw [if_neg (by omega), if_neg (by omega)]
theorem prj_next {V U : List (List UInt8)} {R : List RowL} {L : List TermL} {i j : Nat} (h : ProjF V U R L i j) (hl : L.length = R.length * U.length) (hi : i < U.length) (hj : j < R.length) : ProjF V U R (splice L (j * U.length + i) [boundP V R[j] U[i]]) i (j + 1) := by
  have hlt := row_fits hj hi
  have hfit : (j * U.length + i) + [boundP V R[j] U[i]].length ≤ L.length := by rw [List.length_singleton, hl]; omega
  intro j' i' hj' hi'
  by_cases e : j' = j ∧ i' = i
  · obtain ⟨rfl, rfl⟩ := e
    have := splice_in (L := L) (M := [boundP V R[j'] U[i']]) hfit (i := 0) (by simp)
    rw [Nat.add_zero] at this
    rw [this, if_pos (.inr ⟨rfl, by omega⟩)]
    rfl
  · have hne : j' * U.length + i' ≠ j * U.length + i := by
      intro c
      rcases Nat.lt_trichotomy j' j with h1 | h1 | h1
      · have := Nat.mul_le_mul_right U.length (Nat.succ_le_of_lt h1)
        rw [Nat.succ_mul] at this
        omega
      · subst h1; exact e ⟨rfl, by omega⟩
      · have := Nat.mul_le_mul_right U.length (Nat.succ_le_of_lt h1)
        rw [Nat.succ_mul] at this
        omega
    rw [splice_out hfit (by rw [List.length_singleton]; omega), h j' i' hj' hi']
    congr 1
    by_cases e2 : i' < i ∨ (i' = i ∧ j' < j)
    · rw [if_pos e2, if_pos (by omega)]
    · rw [if_neg e2, if_neg (by
        rintro (c | ⟨c1, c2⟩)
        · exact e2 (.inl c)
        · exact e2 (.inr ⟨c1, by
            have : j' ≠ j := fun q => e ⟨q, c1⟩
            omega⟩))]

/- what the rounds keep -/
structure PrjR (A X B0 : Nat) (w0 : World) (vs rs : Value) (V U : List (List UInt8)) (R : List RowL) (b n G1 G2 G3 i j : Nat) (wr : World) : Prop where
  arg : Blk wr A 31 #[vs, rs]
  res : Blk wr (A + 1) 31 #[.slice none 0 0, .slice none 0 0]
  box : Blk wr X 31 #[.slice (some ⟨G1, 0, none⟩) U.length U.length, .slice (some ⟨G2, 0, none⟩) n n]
  txt : Blk wr G1 9 (textCells U).toArray
  row : Blk wr G2 51 (cutRows G3 U.length n n).toArray
  trm : ∃ L, Blk wr G3 23 (cellsT L).toArray ∧ L.length = R.length * U.length ∧ ProjF V U R L i j
  map : MapS wr b (cntL V) (colF V)
  below : Below B0 w0 wr
theorem PrjR.next {A X B0 : Nat} {w0 W w5 : World} {vs rs : Value} {V U : List (List UInt8)} {R : List RowL} {b n G1 G2 G3 i j : Nat} {L : List TermL} {t : TermL} {q : Nat} (h : PrjR A X B0 w0 vs rs V U R b n G1 G2 G3 i j W) (hG : Blk w5 G3 23 (cellsT (splice L q [t])).toArray) (hl : (splice L q [t]).length = R.length * U.length) (hf : ProjF V U R (splice L q [t]) i (j + 1))
    (hs : ∀ c, c < W.heap.size → c ≠ G3 → w5.heap[c]? = W.heap[c]?) (hz : W.heap.size ≤ w5.heap.size) (hb : Below B0 w0 w5) (hbn : b ≠ G3) : PrjR A X B0 w0 vs rs V U R b n G1 G2 G3 i (j + 1) w5 := by
  obtain ⟨L0, h3, _, _⟩ := h.trm
  have kp : ∀ {c : Nat} {T : TypeId} {cs : Array Value}, Blk W c T cs → T ≠ 23 → Blk w5 c T cs := fun {c T cs} hc hT => by
    have := hs c (blk_lt hc) (blk_kinds hc h3 hT)
    unfold Blk at *
    rw [this]; exact hc
  exact ⟨kp h.arg tab_trm, kp h.res tab_trm, kp h.box tab_trm, kp h.txt str_trm, kp h.row row_trm, ⟨_, hG, hl, hf⟩, h.map.stay (K := fun c => c ≠ G3) ⟨hz, hs⟩ hbn, hb⟩
theorem PrjR.col {A X B0 : Nat} {w0 W : World} {vs rs : Value} {V U : List (List UInt8)} {R : List RowL} {b n G1 G2 G3 i j i' j' : Nat} (h : PrjR A X B0 w0 vs rs V U R b n G1 G2 G3 i j W) (hf : ∀ L, ProjF V U R L i j → ProjF V U R L i' j') : PrjR A X B0 w0 vs rs V U R b n G1 G2 G3 i' j' W := by
  obtain ⟨L, h1, h2, h3⟩ := h.trm
  exact ⟨h.arg, h.res, h.box, h.txt, h.row, ⟨L, h1, h2, hf L h3⟩, h.map, h.below⟩

set_option maxRecDepth 100000 in
set_option maxHeartbeats 8000000 in
theorem projected_calls (V U : List (List UInt8)) (R : List RowL) (hV : okV V) (hU : okV U) (hnd : V.Nodup) (hrl : ∀ r ∈ R, r.length = V.length) (hR6 : R.length ≤ 1000000) (hU6 : U.length ≤ 1000000) (tv : Value) (ua : Option Addr) (uc : Nat) (w : World) (ht : TabA w tv V R) (hu : TxtA w ua U.length uc U) :
    Calls Tryz.prog 45 #[tv, .slice ua U.length uc] w fun e w' => ∃ uv, e = .returned uv ∧ TabK (fun i => w.heap.size ≤ i) w' uv U (projP U V R) ∧ Below w.heap.size w w' := by
  obtain ⟨va, vn, vc, ra, n, rc, rfl, hVA, hRA⟩ := ht
  have HVA := Lib.hid hVA
  have HRA := Lib.hid hRA
  have HUA := Lib.hid hu
  have HRL := Lib.hid hRA.len
  have HVL := Lib.hid hVA.len
  have HOV := Lib.hid hV
  have HOU := Lib.hid hU
  have HND := Lib.hid hnd
  have HWD := Lib.hid hrl
  have hn6 : n ≤ 1000000 := by rw [← hRA.len]; exact hR6
  have HGT := Lib.hid (fun w' B tv L h hf => grid_tab (w := w') (B := B) (tv := tv) (V := U) (n := n) (L := L) (R := projP U V R) h ((proj_len U V R).1.trans hRA.len) (proj_len U V R).2 hf hn6 hU6)
  have HEM := Lib.hid (fun W hW => empty_calls U n ua uc W hW hn6 hU6)
  obtain ⟨A, hA⟩ : ∃ A, w.heap.size = A := ⟨_, rfl⟩
  have HAE := Lib.hid hA
  obtain ⟨W0, hW0⟩ : ∃ W0, (w.alloc (.cells #[.slice va vn vc, .slice ra n rc] 31)).alloc (.cells #[.slice none 0 0, .slice none 0 0] 31) = W0 := ⟨_, rfl⟩
  have HW0 := Lib.hid hW0
  have HB0 := Lib.hid (show Below w.heap.size w W0 by rw [← hW0]; exact two_alloc _ _ _)
  have HT0 := Lib.hid (tabs2_new w (.slice va vn vc) (.slice ra n rc) (.slice none 0 0) (.slice none 0 0))
  rw [hW0, hA] at HT0
  have HZ0 := Lib.hid (show W0.heap.size = A + 2 by rw [← hW0, ← hA]; simp)
  obtain ⟨m, hme⟩ : ∃ m, U.length = m := ⟨_, rfl⟩
  rw [hme] at HEM HUA hU6
  have HME := Lib.hid hme
  rw [hme]
  clear hVA hRA hu hV hU hnd hrl hR6 hA hW0 hme
  go_enter Tryz.func45, Tryz.ntmps45
  go_wp2_with fail
  rw [HW0.out, HAE.out]
  refine (HEM.out W0 (HUA.out.on HB0.out)).mono ?_
  rintro e w1 ⟨tv, rfl, hgrid, hb1⟩
  obtain ⟨G1, G2, G3, rfl, b1, b2, b3, h1, h2, h3, hl⟩ := hgrid
  rw [HME.out]
  have HBG := Lib.hid (show A + 2 ≤ G1 ∧ A + 2 ≤ G2 ∧ A + 2 ≤ G3 by have := HZ0.out; omega)
  have HA1 := Lib.hid (blk_on HT0.out.one hb1 (by have := HZ0.out; omega))
  have HE1 := Lib.hid (blk_on HT0.out.two hb1 (by have := HZ0.out; omega))
  have HG1 := Lib.hid h1
  have HG2 := Lib.hid h2
  have HG3 := Lib.hid h3
  have HLL := Lib.hid hl
  have HB1 := Lib.hid (fb2 HB0.out hb1 (Nat.le_refl _))
  have q0 : w1.cell? ⟨A, 0, none⟩ = some (.slice va vn vc) := (blk_cell HA1.out 0).trans rfl
  have ha1 : A < w1.heap.size := blk_lt HA1.out
  have ha2 : ¬ A = w1.heap.size := by omega
  obtain ⟨X, hX⟩ : ∃ X, w1.heap.size = X := ⟨_, rfl⟩
  obtain ⟨w2, hw2⟩ : ∃ w2, w1.alloc (.cells #[.slice (some ⟨G1, 0, none⟩) m m, .slice (some ⟨G2, 0, none⟩) n n] 31) = w2 := ⟨_, rfl⟩
  have HB12 := Lib.hid (show Below w1.heap.size w1 w2 by rw [← hw2]; exact box_below _ _)
  have HX2 := Lib.hid (show Blk w2 X 31 #[.slice (some ⟨G1, 0, none⟩) m m, .slice (some ⟨G2, 0, none⟩) n n] by rw [← hw2, ← hX]; exact blk_new _ _ _)
  have HB2 := Lib.hid (fb2 HB1.out HB12.out (Nat.le_refl _))
  have HXE := Lib.hid hX
  have HW2 := Lib.hid hw2
  have HCO := Lib.hid (scols_calls V HOV.out va vn vc w2 (HVA.out.on HB2.out))
  clear h1 h2 h3 hl b1 b2 b3 hb1 hX hw2
  go_wp2_with fail
  rw [HW2.out, HXE.out]
  refine HCO.out.mono ?_
  rintro e w3 ⟨b, rfl, hbe, hm3, hb3⟩
  have HBE := Lib.hid hbe
  have HP0 := Lib.hid (show PrjR A X w.heap.size w (.slice va vn vc) (.slice ra n rc) V U R b n G1 G2 G3 0 0 w3 from by
    have k := fun {c : Nat} {T : TypeId} {cs : Array Value} (h : Blk w1 c T cs) => blk_on (blk_on h HB12.out (blk_lt h)) hb3 (Nat.lt_of_lt_of_le (blk_lt h) HB12.out.size)
    refine ⟨k HA1.out, k HE1.out, ?_, k HG1.out, ?_, ⟨_, k HG3.out, ?_, ?_⟩, hm3, fb2 HB2.out hb3 (Nat.le_refl _)⟩
    · rw [HME.out]; exact blk_on HX2.out hb3 (blk_lt HX2.out)
    · rw [HME.out]; rw [HME.out] at HG2; exact k HG2.out
    · rw [List.length_replicate, HRL.out, HME.out]
    · have := prj_zero V U R
      rw [HRL.out, HME.out] at this
      exact this)
  have HA3 := Lib.hid (blk_on (blk_on HA1.out HB12.out (blk_lt HA1.out)) hb3 (Nat.lt_of_lt_of_le (blk_lt HA1.out) HB12.out.size))
  have HBN := Lib.hid (show b ≠ G3 by have h1 := blk_lt HG3.out; have h2 := HB12.out.size; omega)
  have HBB := Lib.hid (show A + 2 ≤ w2.heap.size ∧ w.heap.size = A by have h1 := HBG.out.1; have h2 := blk_lt HG1.out; have h3 := HB12.out.size; have h4 := HAE.out; exact ⟨by omega, h4⟩)
  clear hm3 hb3 hbe HG1 HG2 HG3 HA1 HE1 HX2 HT0 q0 ha1 ha2 HLL
  have HB3G := Lib.hid (show w.heap.size ≤ G3 by have h1 := HBG.out.2.2; have h2 := HAE.out; omega)
  have HBX := Lib.hid (show w.heap.size ≤ G1 ∧ w.heap.size ≤ G2 by have h1 := HBG.out; have h2 := HAE.out; omega)
  have HUL := Lib.hid HUA.out.len
  have HUC := Lib.hid (show m ≤ uc ∧ uc ≤ maxLen from ⟨HUA.out.cap, HUA.out.most⟩)
  have HRC := Lib.hid (show n ≤ rc ∧ rc ≤ maxLen from ⟨HRA.out.cap, HRA.out.most⟩)
  go_wp2
  go_loopg [7, 8, 9, 10, 11, 12, 23] m (fun g _ _ _ _ _ _ i wr => ∃ i' : Nat, i = .int .i64 i' ∧ i' + g = m ∧ Hid (PrjR A X w.heap.size w (.slice va vn vc) (.slice ra n rc) V U R b n G1 G2 G3 i' 0 wr))
  case atStart => exact ⟨0, rfl, by omega, HP0⟩
  case round =>
    obtain ⟨W1, rfl⟩ : ∃ W1, W1 = wr := ⟨_, rfl⟩
    obtain ⟨i, rfl, hig, HPR⟩ := hrel
    have HBW := Lib.hid HPR.out.below
    have k0 : (0 : Int) ≤ (i : Int) := by omega
    by_cases hi : i < m
    · obtain ⟨gg, rfl⟩ : ∃ gg, gk = gg + 1 := ⟨gk - 1, by omega⟩
      have hiU : i < U.length := by rw [HME.out]; exact hi
      obtain ⟨g4, o4, rfl, hg4, hc4⟩ := HUA.out.cells (by omega)
      have c0 : W1.cell? ⟨g4, o4 + i, none⟩ = some (.string (bs U[i])) := keptC (hc4 i hiU) HBW.out hg4
      have hok := Lib.hid (HOU.out _ (List.getElem_mem hiU))
      have HIU := Lib.hid hiU
      have HPN := Lib.hid (fun (hp : placeP V U[i] = none) L (hf : ProjF V U R L i 0) => prj_none hf hiU hp)
      have HPX := Lib.hid (fun j (hj : j < R.length) L (hf : ProjF V U R L i j) (hl : L.length = R.length * U.length) => prj_next hf hl hiU hj)
      have k1 : (i : Int) < (m : Int) := by omega
      generalize U[i] = x at c0 hok HPN HPX
      clear hc4 hg4 hiU
      have hcp := colF_place HND.out x
      cases hp : placeP V x with
      | none =>
        have HQ := Lib.hid (show colF V x = none by rw [hcp, hp]; rfl)
        have HP2 := Lib.hid (HPR.out.col (HPN.out hp))
        clear hcp hp HPN HPX
        go_wp2_with (at_lookup; refine wpList_look_g rfl _ _ 87 rfl keyS Tryz.underlying87 rfl HPR.out.map x hok.out rfl ?_; rw [HQ.out]; simp only [Option.getD_none, Option.isSome_none])
        go_roundg gg
        case measure => omega
        case rel => exact ⟨i + 1, by go_num, by omega, HP2⟩
      | some c =>
        have HQ := Lib.hid (show colF V x = some (c : Int) by rw [hcp, hp]; rfl)
        have HCV := Lib.hid (place_lt hp).1
        have hcv : c < vn := by rw [← HVL.out]; exact HCV.out
        have HPL := Lib.hid hp
        have q1 : W1.cell? ⟨A, 1, none⟩ = some (.slice ra n rc) := (blk_cell HPR.out.arg 1).trans rfl
        clear hcp hp HPN
        go_wp2_with (at_lookup; refine wpList_look_g rfl _ _ 87 rfl keyS Tryz.underlying87 rfl HPR.out.map x hok.out rfl ?_; rw [HQ.out]; simp only [Option.getD_some, Option.isSome_some])
        clear q1
        go_loopg [11, 12, 39] n (fun g _ _ j wr => ∃ j' : Nat, j = .int .i64 j' ∧ j' + g = n ∧ Hid (PrjR A X w.heap.size w (.slice va vn vc) (.slice ra n rc) V U R b n G1 G2 G3 i j' wr))
        case atStart => exact ⟨0, rfl, by omega, HPR⟩
        case round =>
          clear HPR HBW
          obtain ⟨W2, rfl⟩ : ∃ W2, W2 = wr := ⟨_, rfl⟩
          obtain ⟨j, rfl, hjg, HPR⟩ := hrel
          have HBW := Lib.hid HPR.out.below
          have j0 : (0 : Int) ≤ (j : Int) := by omega
          by_cases hj : j < n
          · obtain ⟨hh, rfl⟩ : ∃ hh, gk = hh + 1 := ⟨gk - 1, by omega⟩
            have hjR : j < R.length := by rw [HRL.out]; exact hj
            obtain ⟨g, o, rfl, hgw, hcells⟩ := HRA.out.cells (by omega)
            obtain ⟨a', c', hcell, htrm⟩ := hcells j hjR
            have hrv := (HWD.out _ (List.getElem_mem hjR)).trans HVL.out
            have hjc : c < R[j].length := by rw [hrv]; exact hcv
            rw [hrv] at hcell htrm
            obtain ⟨g5, o5, rfl, hg5, hc5⟩ := htrm.cells (by omega)
            have hct := hc5 c hjc
            obtain ⟨L, hG3, hl, hf⟩ := HPR.out.trm
            have hpx := HPX.out j hjR L hf hl
            have e : boundP V R[j] x = R[j][c]'hjc := by
              unfold boundP
              rw [HPL.out]
              exact getD_at R[j] c hjc nilT
            rw [e] at hpx
            generalize R[j][c]'hjc = t at hct hpx
            have c1 : W2.cell? ⟨g, o + j, none⟩ = some (.slice (some ⟨g5, o5, none⟩) vn c') := keptC hcell HBW.out hgw
            have HG3 := Lib.hid hG3
            have HFN := Lib.hid hpx
            have hcap := htrm.cap
            have hmst := htrm.most
            obtain ⟨o3, ho3⟩ : ∃ o3, j * m * 4 = o3 := ⟨_, rfl⟩
            have hfit := row_fits hjR HIU.out
            rw [HME.out] at hfit
            have hl' : L.length = n * m := by rw [hl, HRL.out, HME.out]
            have eo : o3 + i * 4 = (j * U.length + i) * 4 := by rw [HME.out, ← ho3, Nat.add_mul]
            rw [HRL.out] at hfit
            have HSP := Lib.hid (show (cellsT L).take (o3 + i * 4) ++ [.int .i64 t.k, .string (bs t.x), .string (bs t.y), .string (bs t.z)] ++ (cellsT L).drop (o3 + i * 4 + 4) = cellsT (splice L (j * U.length + i) [t]) by
              have := splice_cells L (j * U.length + i) [t]
              rw [cellsT_one, ← eo] at this
              exact this)
            have HF := Lib.hid (show o3 + i * 4 + 4 ≤ (cellsT L).length by rw [cellsT_length, hl', ← ho3]; omega)
            have HSP2 := Lib.hid (show (splice L (j * U.length + i) [t]).length = R.length * U.length by rw [splice_length (by rw [List.length_singleton, hl', HME.out]; omega), hl])
            have HSA := Lib.hid (show W2.cell? ⟨X, 1, none⟩ = some (.slice (some ⟨G2, 0, none⟩) n n) ∧ W2.cell? ⟨G2, j, none⟩ = some (.slice (some ⟨G3, o3, none⟩) m m) ∧ TermAt W2 g5 (o5 + c * 4) t from ⟨(blk_cell HPR.out.box 1).trans rfl, by
              rw [blk_cell HPR.out.row, ← ho3]
              have := cutRows_at (G := G3) (m := U.length) (n := n) (k := n) hj
              rw [HME.out] at this ⊢
              simpa [cutV] using this, hct.on HBW.out hg5⟩)
            have HNE := Lib.hid (show A ≠ G3 ∧ X ≠ G3 ∧ G2 ≠ G3 ∧ g5 ≠ G3 from ⟨blk_kinds HPR.out.arg hG3 tab_trm, blk_kinds HPR.out.box hG3 tab_trm, blk_kinds HPR.out.row hG3 row_trm, by have := HB3G.out; omega⟩)
            have HLT := Lib.hid (show X < W2.heap.size ∧ G2 < W2.heap.size ∧ g5 < W2.heap.size from ⟨blk_lt HPR.out.box, blk_lt HPR.out.row, Nat.lt_of_lt_of_le hg5 HBW.out.size⟩)
            have HBS := Lib.hid HBW.out.size
            have r1 := HRC.out
            unfold maxLen at r1 hmst
            have j1 : (j : Int) < (n : Int) := by omega
            have c2 : (0 : Int) ≤ (c : Int) := by omega
            have c3 : (c : Int) < (vn : Int) := by omega
            clear hcells hcell htrm hrv hjc hc5 hct hG3 hl hf hpx e ho3 hfit hl' eo hjR hgw hg5
            go_wp2_with fail
            refine wp_region_held_drew (S := (fun W => W.cell? ⟨X, 1, none⟩ = some (.slice (some ⟨G2, 0, none⟩) n n) ∧ W.cell? ⟨G2, j, none⟩ = some (.slice (some ⟨G3, o3, none⟩) m m) ∧ TermAt W g5 (o5 + c * 4) t)) (by kernel_rfl) ?_ (fun hHeld => ?_)
            · (try dsimp only); exact HSA.out
            obtain ⟨Wd, hWd⟩ : ∃ Wd, W2.drew = Wd := ⟨_, rfl⟩
            rw [hWd] at hHeld ⊢
            have HBD := Lib.hid (show Below W2.heap.size W2 Wd by rw [← hWd]; exact (Below.refl _ _).drew)
            clear hWd
            refine wpAnyH_take (i := 0) (oi := ⟨some 44, _, _, _, _, _⟩) (v := ?_) rfl (by kernel_rfl) (by kernel_rfl) (by kernel_rfl) (fun _ _ _ h => h) (Or.inl ⟨by kernel_rfl, ?_⟩) (by assumption) ?_
            rotate_left
            · (intro ww hSw; (try dsimp only at hSw); go_simp); (try with_reducible rfl)
            (try simp only [Act.put, List.setIfInBounds_toArray, List.set_cons_zero, List.set_cons_succ])
            refine wpAnyH_take (i := 1) (oi := ⟨some 45, _, _, _, _, _⟩) (v := ?_) rfl (by kernel_rfl) (by kernel_rfl) (by kernel_rfl) (fun _ _ _ h => h) (Or.inl ⟨by kernel_rfl, ?_⟩) (by assumption) ?_
            rotate_left
            · (intro ww hSw; (try dsimp only at hSw); obtain ⟨d1, _⟩ := hSw; go_simp); (try with_reducible rfl)
            (try simp only [Act.put, List.setIfInBounds_toArray, List.set_cons_zero, List.set_cons_succ])
            refine wpAnyH_take (i := 2) (oi := ⟨some 46, _, _, _, _, _⟩) (v := ?_) rfl (by kernel_rfl) (by kernel_rfl) (by kernel_rfl) (fun _ _ _ h => h) (Or.inl ⟨by kernel_rfl, ?_⟩) (by assumption) ?_
            rotate_left
            · (intro ww hSw; (try dsimp only at hSw); go_simp); (try with_reducible rfl)
            (try simp only [Act.put, List.setIfInBounds_toArray, List.set_cons_zero, List.set_cons_succ])
            refine wpAnyH_take (i := 3) (oi := ⟨some 47, _, _, _, _, _⟩) (v := ?_) rfl (by kernel_rfl) (by kernel_rfl) (by kernel_rfl) (fun _ _ _ h => h) (Or.inl ⟨by kernel_rfl, ?_⟩) (by assumption) ?_
            rotate_left
            · (intro ww hSw; (try dsimp only at hSw); go_simp); (try with_reducible rfl)
            (try simp only [Act.put, List.setIfInBounds_toArray, List.set_cons_zero, List.set_cons_succ])
            refine wpAnyH_take (i := 4) (oi := ⟨some 48, _, _, _, _, _⟩) (v := ?_) rfl (by kernel_rfl) (by kernel_rfl) (by kernel_rfl) (fun _ _ _ h => h) (Or.inl ⟨by kernel_rfl, ?_⟩) (by assumption) ?_
            rotate_left
            · (intro ww hSw; (try dsimp only at hSw); obtain ⟨_, d1, _⟩ := hSw; go_simp); (try with_reducible rfl)
            (try simp only [Act.put, List.setIfInBounds_toArray, List.set_cons_zero, List.set_cons_succ])
            refine wpAnyH_take (i := 5) (oi := ⟨some 49, _, _, _, _, _⟩) (v := ?_) rfl (by kernel_rfl) (by kernel_rfl) (by kernel_rfl) (fun _ _ _ h => h) (Or.inl ⟨by kernel_rfl, ?_⟩) (by assumption) ?_
            rotate_left
            · (intro ww hSw; (try dsimp only at hSw); go_simp); (try with_reducible rfl)
            (try simp only [Act.put, List.setIfInBounds_toArray, List.set_cons_zero, List.set_cons_succ])
            refine wpAnyH_take (i := 6) (oi := ⟨some 50, _, _, _, _, _⟩) (v := ?_) rfl (by kernel_rfl) (by kernel_rfl) (by kernel_rfl) (fun _ _ _ h => h) (Or.inl ⟨by kernel_rfl, ?_⟩) (by assumption) ?_
            rotate_left
            · (intro ww hSw; (try dsimp only at hSw); go_simp); (try with_reducible rfl)
            (try simp only [Act.put, List.setIfInBounds_toArray, List.set_cons_zero, List.set_cons_succ])
            refine wpAnyH_take (i := 7) (oi := ⟨some 51, _, _, _, _, _⟩) (v := ?_) rfl (by kernel_rfl) (by kernel_rfl) (by kernel_rfl) (fun _ _ _ h => h) (Or.inl ⟨by kernel_rfl, ?_⟩) (by assumption) ?_
            rotate_left
            · (intro ww hSw; (try dsimp only at hSw); go_simp); (try with_reducible rfl)
            (try simp only [Act.put, List.setIfInBounds_toArray, List.set_cons_zero, List.set_cons_succ])
            refine wpAnyH_take (i := 8) (oi := ⟨some 52, _, _, _, _, _⟩) (v := ?_) rfl (by kernel_rfl) (by kernel_rfl) (by kernel_rfl) (fun _ _ _ h => h) (Or.inl ⟨by kernel_rfl, ?_⟩) (by assumption) ?_
            rotate_left
            · (intro ww hSw; (try dsimp only at hSw); go_simp); (try with_reducible rfl)
            (try simp only [Act.put, List.setIfInBounds_toArray, List.set_cons_zero, List.set_cons_succ])
            refine wpAnyH_take (i := 9) (oi := ⟨some 53, _, _, _, _, _⟩) (v := ?_) rfl (by kernel_rfl) (by kernel_rfl) (by kernel_rfl) (fun _ _ _ h => h) (Or.inl ⟨by kernel_rfl, ?_⟩) (by assumption) ?_
            rotate_left
            · (intro ww hSw; (try dsimp only at hSw); obtain ⟨_, _, d1, d2, d3, d4⟩ := hSw; go_simp); (try with_reducible rfl)
            (try simp only [Act.put, List.setIfInBounds_toArray, List.set_cons_zero, List.set_cons_succ])
            refine wpAnyH_take (i := 10) (oi := ⟨some 54, _, _, _, _, _⟩) (v := ?_) rfl (by kernel_rfl) (by kernel_rfl) (by kernel_rfl) (fun _ _ _ h => h) (Or.inl ⟨by kernel_rfl, ?_⟩) (by assumption) ?_
            rotate_left
            · (intro ww hSw; (try dsimp only at hSw); go_simp); (try with_reducible rfl)
            (try simp only [Act.put, List.setIfInBounds_toArray, List.set_cons_zero, List.set_cons_succ])
            have HBk := Lib.hid (blk_on HG3.out HBD.out (blk_lt HG3.out))
            refine wpAnyH_ready (rs := [11]) (by kernel_rfl) (by simp) ?_
            refine AllReadyH.cons rfl (fun K hK => ?_) AllReadyH.nil
            refine wp_mid_abs 23 (.tmp 54) (.tmp 53) rfl G3 (o3 + i * 4) #[.int .i64 t.k, .string (bs t.x), .string (bs t.y), .string (bs t.z)] rfl rfl 23 (cellsT L) _ HBk.out (by kernel_rfl) (by kernel_rfl) HSP.out HF.out ?_
            intro w5 hG35 hg5
            have HST := Lib.hid (show ∀ b, b < W2.heap.size → b ≠ G3 → w5.heap[b]? = W2.heap[b]? from fun b hb hne => (hg5.block b (Nat.lt_of_lt_of_le hb HBD.out.size) (fun e => by injection e with e; exact hne e)).trans (HBD.out.block b hb))
            refine hK.out _ _ ?_ (fun hHeld => ?_)
            · exact ⟨(cell_same (HST.out X HLT.out.1 HNE.out.2.1) _).trans HSA.out.1, (cell_same (HST.out G2 HLT.out.2.1 HNE.out.2.2.1) _).trans HSA.out.2.1, HSA.out.2.2.same (HST.out g5 HLT.out.2.2 HNE.out.2.2.2)⟩
            clear hK K
            (try simp only [Act.put])
            refine wpAnyH_done (by kernel_rfl) ?_ _
            have HP5 := Lib.hid (show PrjR A X w.heap.size w (.slice va vn vc) (.slice (some ⟨g, o, none⟩) n rc) V U R b n G1 G2 G3 i (j + 1) w5 from HPR.out.next hG35 HSP2.out HFN.out HST.out (Nat.le_trans HBD.out.size hg5.size) ((HPR.out.below.trans (HBD.out.mono HBS.out)).grown hg5 (by have := HBD.out.size; have := HBS.out; omega) (fun q hq => by injection hq with hq; have := HB3G.out; omega)) HBN.out)
            clear hG35 hg5
            go_wp2
            go_roundg hh
            case measure => omega
            case rel => exact ⟨j + 1, by go_num, by omega, HP5⟩
          · have j1 : ¬ (j : Int) < (n : Int) := by omega
            have hjn : j = R.length := by rw [HRL.out]; omega
            have HP2 := Lib.hid (HPR.out.col (i' := i + 1) (j' := 0) (fun L hf => prj_col (by rw [hjn] at hf; exact hf)))
            clear hjn
            go_wp2
            go_roundg gg
            case measure => omega
            case rel => exact ⟨i + 1, by go_num, by omega, HP2⟩
    · have k1 : ¬ (i : Int) < (m : Int) := by omega
      obtain ⟨L, hG3, hl, hf⟩ := HPR.out.trm
      have HF := Lib.hid (prj_all hf (by rw [HME.out]; omega))
      have HL := Lib.hid hl
      have HG3 := Lib.hid hG3
      have HX1 := Lib.hid HPR.out.box
      rw [HME.out] at HX1
      have q0 : W1.cell? ⟨X, 0, none⟩ = some (.slice (some ⟨G1, 0, none⟩) m m) := (blk_cell HX1.out 0).trans rfl
      have q1 : W1.cell? ⟨X, 1, none⟩ = some (.slice (some ⟨G2, 0, none⟩) n n) := (blk_cell HX1.out 1).trans rfl
      clear hG3 hl hf
      go_wp2_with (refine whole_abs 31 (.tmp 4) (.tmp 57) ⟨rfl, rfl⟩ (A + 1) #[.slice (some ⟨G1, 0, none⟩) m m, .slice (some ⟨G2, 0, none⟩) n n] rfl rfl 31 #[.slice none 0 0, .slice none 0 0] HPR.out.res (by kernel_rfl) rfl (by kernel_rfl) ?_; intro w9 hA9 hG9)
      have q2 : w9.cell? ⟨A + 1, 0, none⟩ = some (.slice (some ⟨G1, 0, none⟩) m m) := (blk_cell hA9.out 0).trans rfl
      have q3 : w9.cell? ⟨A + 1, 1, none⟩ = some (.slice (some ⟨G2, 0, none⟩) n n) := (blk_cell hA9.out 1).trans rfl
      refine bodyPost_ret (v := .agg #[.slice (some ⟨G1, 0, none⟩) m m, .slice (some ⟨G2, 0, none⟩) n n]) (by simp [results, Tryz.results45, q2, q3, go_sem]) rfl ⟨_, rfl, ?_, ?_⟩
      · have hb := HBX.out
        have hc := HB3G.out
        have hr := HF.out
        rw [HRL.out] at hr
        refine HGT.out w9 w.heap.size _ L ⟨G1, G2, G3, by rw [HME.out], hb.1, hb.2, hc, ?_, ?_, ?_, by rw [HL.out, HRL.out]⟩ hr
        · exact blk_grown HPR.out.txt (blk_kinds HPR.out.txt HPR.out.res (Ne.symm tab_str)) hG9.out
        · exact blk_grown HPR.out.row (blk_kinds HPR.out.row HPR.out.res (Ne.symm tab_row)) hG9.out
        · exact blk_grown HG3.out (blk_kinds HG3.out HPR.out.res (Ne.symm tab_trm)) hG9.out
      · exact HBW.out.grown hG9.out HBW.out.size (fun j hj => by injection hj with hj; have := HAE.out; omega)

end Go.Proofs.YtkfemnjblbnclaaGreatDoor
