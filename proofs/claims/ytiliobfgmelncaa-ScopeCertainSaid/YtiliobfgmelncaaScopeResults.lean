/- The results of all operations of a code, by the program. (Written by gen/mkresults.py.) -/
import Derived.Test.YtiliobfgmelncaaScopeRowss
import Derived.Deep.RegionHeld3
import Derived.BigQuiet
namespace Go.Proofs.Ytiliobfgmelncaa
open Go.RowKit Go.Maps

def RunT (w : World) (C : List OpL) (e : Ending) (w' : World) : Prop :=
  Below w.heap.size w w' ∧ ((resE C ≠ 0 ∧ e = .returned (.tuple #[.slice none 0 0, .int .i64 (resE C)])) ∨ (resE C = 0 ∧ ∃ a c, e = .returned (.tuple #[.slice a C.length c, .int .i64 0]) ∧ ResA w' a C.length c (resA C)))
/- what the rounds keep -/
structure RunW (w : World) (C : List OpL) (k : Nat) (va vo : Value) (E : Int) (op all : List ResP) (e : Bool) (wr : World) : Prop where
  run : RunR C k (op.map (·.r)) e (all.map (·.r))
  err : E = if e = true then 6 else 0
  oa : OwnR wr w.heap.size va all
  oo : OwnR wr w.heap.size vo op
  apart : ∀ b, va.ownBlock = some b → vo.ownBlock ≠ some b
  sa : SetsR wr all
  so : SetsR wr op
  below : Below w.heap.size w wr
theorem OwnR.on {W W' : World} {B : Nat} {v : Value} {L : List ResP} (h : OwnR W B v L) (hb : Below W.heap.size W W') : OwnR W' B v L := rowOn h hb
theorem res_none {C : List OpL} (h : C.length ≤ 128) (hr : runP C 0 [] false [] = none) {w w' : World} (hb : Below w.heap.size w w') : RunT w C (.returned (.tuple #[.slice none 0 0, .int .i64 2])) w' :=
  ⟨hb, .inl ⟨by rw [resE_none h hr]; decide, by rw [resE_none h hr]⟩⟩
theorem news4 (w : World) (a b c d : Value) (t : TypeId) : ∀ j u, [a, b, c, d][j]? = some u → (w.alloc (.cells #[a, b, c, d] t)).cell? ((⟨w.heap.size, 0, none⟩ : Addr).add j) = some u := by
  intro j u hj
  match j, hj with
  | 0, hj => simp at hj; subst hj; simp [Addr.add]
  | 1, hj => simp at hj; subst hj; simp [Addr.add]
  | 2, hj => simp at hj; subst hj; simp [Addr.add]
  | 3, hj => simp at hj; subst hj; simp [Addr.add]
  | j + 4, hj => simp at hj
theorem ownR_res {W : World} {B : Nat} {v : Value} {L : List ResP} {N : List ResL} {m : Nat} (h : OwnR W B v L) (hs : SetsR W L) (hN : N = L.map (·.r)) (hm : L.length = m) : ∃ a c, v = .slice a m c ∧ ResA W a m c N := by
  subst hN hm
  rcases h.cases with ⟨rfl, rfl⟩ | ⟨g, cap, rfl⟩
  · exact ⟨none, 0, rfl, rfl, Nat.le_refl _, Nat.zero_le _, fun h => absurd h (Nat.lt_irrefl _)⟩
  · exact ⟨_, _, rfl, h.whole hs⟩
/- one more result is pushed: onto all, and onto what is left of the stack -/
theorem runW_next {w W1 W5 W7 w8 W9 w9 : World} {C : List OpL} {k q : Nat} {va vo : Value} {E E' : Int} {op all : List ResP} {e e' : Bool} {ga ca go co n : Nat} {x : ResP} {vc : Value}
    (H : RunW w C k va vo E op all e W1) (hE : E' = if e' = true then 6 else 0)
    (hrun : RunR C (k + 1) ((op.take q).map (·.r) ++ [x.r]) e' (all.map (·.r) ++ [x.r]))
    (h5 : Below W1.heap.size W1 W5) (hp : SetA W5 x.p x.r.sc) (hq : SetA W5 x.q x.r.ct) (h7 : Below W5.heap.size W5 W7)
    (ha8 : w8.ownsRow w.heap.size 35 4 (.slice (some ⟨ga, 0, none⟩) (all.length + 1) ca) (all.length + 1) (resCells all ++ x.cells)) (hg8 : W7.grownBy w8 va.ownBlock) (hat8 : va.ownBlock = some ga ∨ ga = W7.heap.size) (hlt8 : ga < w8.heap.size)
    (h9 : Below w8.heap.size w8 W9)
    (ho9 : w9.ownsRow w.heap.size 35 4 (.slice (some ⟨go, 0, none⟩) (n + 1) co) (n + 1) (resCells (op.take q) ++ x.cells)) (hn : (op.take q).length = n) (hc : OwnR W9 w.heap.size vc (op.take q)) (hg9 : W9.grownBy w9 vc.ownBlock) (hvc : vc.ownBlock = vo.ownBlock) (hat9 : vc.ownBlock = some go ∨ go = W9.heap.size) :
    RunW w C (k + 1) (.slice (some ⟨ga, 0, none⟩) (all.length + 1) ca) (.slice (some ⟨go, 0, none⟩) (n + 1) co) E' (op.take q ++ [x]) (all ++ [x]) e' w9 := by
  have h17 := h5.trans (h7.mono h5.size)
  have hb7 : Below w.heap.size w W7 := H.below.trans (h17.mono H.below.size)
  have hv7 : OwnR W7 w.heap.size va all := H.oa.on h17
  have m57 : MapsOn W5 W7 := mapsOn_below h7
  have m17 : MapsOn W1 W7 := mapsOn_below h17
  have m78 : MapsOn W7 w8 := own_maps hv7 hg8
  have m89 : MapsOn w8 W9 := mapsOn_below h9
  have m99 : MapsOn W9 w9 := own_maps hc hg9
  have m59 := ((m57.trans m78).trans m89).trans m99
  have m19 := ((m17.trans m78).trans m89).trans m99
  have hol := H.oo
  have hne : ∀ b, vc.ownBlock = some b → ga ≠ b := fun b hb => by
    rcases hat8 with h | h
    · intro c; subst c; rw [hvc] at hb; exact H.apart ga h hb
    · rw [hvc] at hb
      have := (H.oo.lt b hb).2
      have := h17.size
      omega
  have hz9 := h9.size
  refine ⟨by rw [List.map_append, List.map_append]; exact hrun, hE, ?_, ?_, ?_, ?_, ?_, ?_⟩
  · have h1 : OwnR w8 w.heap.size (.slice (some ⟨ga, 0, none⟩) (all.length + 1) ca) (all ++ [x]) := by
      unfold OwnR
      rw [List.length_append, resCells_append, resCells_one]; exact ha8
    exact OwnR.kept (h1.on h9) hg9 (.inr (fun e1 => hne ga (by rw [← e1]; rfl) rfl))
  · unfold OwnR
    rw [List.length_append, hn, resCells_append, resCells_one]; exact ho9
  · intro b hb hb2
    have e1 : ga = b := by simpa [Value.ownBlock] using hb
    have e2 : go = b := by simpa [Value.ownBlock] using hb2
    rcases hat9 with h | h
    · exact hne go h (by omega)
    · omega
  · exact SetsR.push (H.sa.on m19) (hp.on m59) (hq.on m59)
  · exact SetsR.push ((H.so.take q).on m19) (hp.on m59) (hq.on m59)
  · have h8 : Below w.heap.size w w8 := hb7.grown hg8 hb7.size (fun j hj => (hv7.lt j hj).1)
    have h9' : Below w.heap.size w W9 := h8.trans (h9.mono h8.size)
    exact h9'.grown hg9 h9'.size (fun j hj => (hc.lt j hj).1)

set_option maxRecDepth 100000 in
set_option maxHeartbeats 16000000 in
theorem results_calls (C : List OpL) (hok : ∀ o ∈ C, OpOk o) (a : Option Addr) (n c : Nat) (w : World) (hv : OpsA w a n c C) : Calls Try.prog 13 #[.slice a n c] w (RunT w C) := by
  obtain ⟨i0, hi, hz0, hz1, hz2⟩ := info_parts info_result
  have HV := Lib.hid hv
  have HOK := Lib.hid hok
  have HL := Lib.hid hv.len
  have hcp := hv.cap
  have hms := hv.most
  unfold maxLen at hms
  clear hv hok
  by_cases h128 : 128 < n
  · have HE := Lib.hid (resE_long (C := C) (by rw [HL.out]; exact h128))
    have g1 : (128 : Int) < (n : Int) := by omega
    go_enter Try.func13, Try.ntmps13
    go_wp2
    refine bodyPost_ret (v := .tuple #[.slice none 0 0, .int .i64 3]) (by simp [results, Try.results13, go_sem]) rfl ⟨Below.refl _ _, .inl ⟨by rw [HE.out]; decide, by rw [HE.out]⟩⟩
  have g1 : ¬ (128 : Int) < (n : Int) := by omega
  have HLC := Lib.hid (show C.length ≤ 128 by rw [HL.out]; omega)
  go_enter Try.func13, Try.ntmps13
  go_wp2_with (at_make; go_must (refine wpList_make_own _ rfl _ _ 52 rfl w.heap.size 35 i0 (.agg #[.int .i64 0, .bool false, .map none, .map none]) 4 Try.underlying52 hi hz0 hz1 _ _ _ n rfl rfl rfl (by rw [hz2]; omega) (by unfold maxLen; omega) (Nat.le_refl _) ?_; intro w1 hrow1 hg1; have HO1 := Lib.hid hrow1; have HG1 := Lib.hid hg1; clear hrow1 hg1))
  go_loopg [4, 5, 6, 20] n (fun g va vo s6 i wr => ∃ (k : Nat) (op all : List ResP) (e : Bool) (E : Int), i = .int .i64 k ∧ s6 = .int .i64 E ∧ k + g = n ∧ Hid (RunW w C k va vo E op all e wr))
  case atStart => exact ⟨0, [], [], false, 0, rfl, rfl, by omega, Lib.hid ⟨runR_start C, rfl, HO1.out, World.ownsRow_nil _ _ _ _, (fun b _ h => by cases h), (fun x hx => absurd hx List.not_mem_nil), (fun x hx => absurd hx List.not_mem_nil), (Below.refl _ _).grown HG1.out (Nat.le_refl _) (fun j hj => by cases hj)⟩⟩
  case round =>
    obtain ⟨W1, rfl⟩ : ∃ W1, W1 = wr := ⟨_, rfl⟩
    obtain ⟨k, op, all, e, E, hu20, hu6, hkg, HR⟩ := hrel
    subst hu20 hu6
    by_cases hk : k < n
    · obtain ⟨gg, rfl⟩ : ∃ gg, gk = gg + 1 := ⟨gk - 1, by omega⟩
      have hkL : k < C.length := by rw [HL.out]; exact hk
      obtain ⟨g, o, ha, hgw, hcells⟩ := HV.out.cells (by omega)
      subst ha
      have hgW : g < W1.heap.size := Nat.lt_of_lt_of_le hgw HR.out.below.size
      obtain ⟨A, h7, hin⟩ := hcells k hkL
      have hc0 := Op7.on h7 HR.out.below hgw
      have HIN := Lib.hid (fun (W : World) (hb : Below w.heap.size w W) => (hin.on hb : OpIn W C[k] A))
      have HNX := Lib.hid (fun h1 h2 h3 => runR_next HR.out.run hkL h1 h2 h3)
      have HST := Lib.hid (fun h1 => runR_stop HR.out.run hkL h1)
      have HOO := Lib.hid (HOK.out C[k] (List.getElem_mem hkL))
      have HAL := Lib.hid (show all.length = k by have h1 := HR.out.run.len; rwa [List.length_map] at h1)
      clear hcells h7 hin
      generalize C[k] = p at hc0 HIN HNX HST HOO
      have HND := Lib.hid (fun W => oNeeds_calls p A W)
      have HRT := Lib.hid (fun W h => oRight_calls p A W HOO.out h)
      have HGD := Lib.hid (fun hg => @needO_right p hg)
      have HNEW := Lib.hid (fun T => OpBox.new W1 p A T)
      have HX := Lib.hid (show ∀ W, OpBox W1 p A W → Op7 W W1.heap.size 0 p A from fun W h => h.1)
      have HMD := Lib.hid (fun hr N hN hb a n c W h1 h2 => made_calls p A hr HOO.out k N hN hb a n c W h1 h2)
      have hbn : -1 ≤ needO p.k ∧ needO p.k ≤ 2 := by unfold needO; split <;> (try split) <;> (try split) <;> omega
      have HTOT := Lib.hid (show ∀ y ∈ op, y.r.sc.length ≤ 1000000 ∧ y.r.ct.length ≤ 1000000 from fun y hy => by
        have h1 := HR.out.run.tot
        have h2 := tot_mem (List.mem_map.2 ⟨y, hy, rfl⟩ : y.r ∈ op.map (·.r))
        omega)
      obtain ⟨pk, pT, pV, pR, pF, pm, ps⟩ := p
      obtain ⟨ta, tn, tc, va', vn, vc, ra, rn, rc, fa, fn, fc⟩ := A
      simp only [OpL.v] at HND HRT HMD
      simp only [Op7] at hc0 HX
      obtain ⟨c0, c1, c2, c3, c4, c5, c6⟩ := hc0
      dsimp only at HND HGD HNEW hbn
      obtain ⟨x, hx⟩ : ∃ x, needO pk = x := ⟨_, rfl⟩
      rw [hx] at HND HGD hbn
      obtain ⟨G, hG⟩ : ∃ G, rightO ⟨pk, pT, pV, pR, pF, pm, ps⟩ = G := ⟨_, rfl⟩
      obtain ⟨D, hD⟩ : ∃ D, ndO ⟨pk, pT, pV, pR, pF, pm, ps⟩ = D := ⟨_, rfl⟩
      rw [hG] at HNX HST HRT HGD HMD
      rw [hD] at HNX HST HGD HMD
      have HDE := Lib.hid hD
      have k0 : (0 : Int) ≤ (k : Int) := by omega
      have k1 : (k : Int) < (n : Int) := by omega
      have hfew : op.length ≤ 128 := by have h1 := HR.out.run.few; rw [List.length_map] at h1; omega
      clear hx hG hD hkL hk
      rcases HR.out.oo.cases with ⟨rfl, rfl⟩ | ⟨g2, cap2, rfl⟩
      · by_cases hx0 : 0 < x
        · have HSTOP := Lib.hid (HST.out (fun h => by have h1 := HGD.out h.1; have h2 := h.2.1; simp at h2; omega))
          obtain ⟨S, hS⟩ : ∃ S, -x = S := ⟨_, rfl⟩
          have e1 : IntKind.i64.wrap (-x) = S := by rw [IntWalk.i64_in _ (by omega)]; exact hS
          have e1b : IntKind.i64.wrap (0 - x) = S := by rw [IntWalk.i64_in _ (by omega)]; omega
          have s0 : S < 0 := by omega
          clear hS hx0 HNX HST HMD HGD
          go_wp2_with fail
          refine (HND.out _).mono ?_
          rintro e2' w2 ⟨rfl, hb2⟩
          have HX2 := Lib.hid ((HNEW.out _).on hb2)
          clear hb2 c0 c1 c2 c3 c4 c5 c6
          obtain ⟨c0, c1, c2, c3, c4, c5, c6⟩ := HX.out _ HX2.out
          have hlt2 := HX2.out.2.2
          have HB2 := Lib.hid (HR.out.below.trans (HX2.out.2.1.mono HR.out.below.size))
          go_wp2
          refine bodyPost_ret (v := .tuple #[.slice none 0 0, .int .i64 2]) (by simp [results, Try.results13, go_sem]) rfl (res_none HLC.out HSTOP.out HB2.out)
        · cases G with
          | false =>
            have HSTOP := Lib.hid (HST.out (fun h => by cases h.1))
            obtain ⟨S, hS⟩ : ∃ S, -x = S := ⟨_, rfl⟩
            have e1 : IntKind.i64.wrap (-x) = S := by rw [IntWalk.i64_in _ (by omega)]; exact hS
            have e1b : IntKind.i64.wrap (0 - x) = S := by rw [IntWalk.i64_in _ (by omega)]; omega
            have s0 : ¬ S < 0 := by omega
            clear hS hx0 HNX HST HMD HGD
            go_wp2_with fail
            refine (HND.out _).mono ?_
            rintro e2' w2 ⟨rfl, hb2⟩
            have HX2 := Lib.hid ((HNEW.out _).on hb2)
            clear hb2 c0 c1 c2 c3 c4 c5 c6
            obtain ⟨c0, c1, c2, c3, c4, c5, c6⟩ := HX.out _ HX2.out
            have hlt2 := HX2.out.2.2
            have HB2 := Lib.hid (HR.out.below.trans (HX2.out.2.1.mono HR.out.below.size))
            go_wp2_with fail
            refine (HRT.out _ (HIN.out _ HB2.out)).mono ?_
            rintro e3 w3 ⟨rfl, hb3⟩
            have HX3 := Lib.hid (HX2.out.on hb3)
            clear hb3 c0 c1 c2 c3 c4 c5 c6 hlt2
            obtain ⟨c0, c1, c2, c3, c4, c5, c6⟩ := HX.out _ HX3.out
            have hlt3 := HX3.out.2.2
            have HB3 := Lib.hid (HR.out.below.trans (HX3.out.2.1.mono HR.out.below.size))
            go_wp2
            refine bodyPost_ret (v := .tuple #[.slice none 0 0, .int .i64 2]) (by simp [results, Try.results13, go_sem]) rfl (res_none HLC.out HSTOP.out HB3.out)
          | true =>
            obtain rfl := HGD.out rfl
            obtain rfl : D = 0 := by omega
            have hk9 : ¬ pk = 9 := fun h => by have := HDE.out; rw [nd_of.2.2.2.2.1 h] at this; cases this
            have hk8 : ¬ pk = 8 := fun h => by have := HDE.out; rw [nd_of.2.2.2.1 h] at this; cases this
            have g8 : (pk == 8) = false := beq_eq_false_iff_ne.2 hk8
            have g9 : (pk == 9) = false := beq_eq_false_iff_ne.2 hk9
            obtain ⟨X, hX⟩ : ∃ X, madeR ⟨pk, pT, pV, pR, pF, pm, ps⟩ k [] = X := ⟨_, rfl⟩
            have HRUN := Lib.hid (HNX.out rfl (Nat.zero_le _) (by unfold nestR; rw [show (pk == 9) = false from g9]; rfl))
            have HM2 := Lib.hid (fun a' c' W h1 h2 => HMD.out rfl [] rfl (fun r hr => absurd hr List.not_mem_nil) a' 0 c' W h1 h2)
            rw [show topN ⟨pk, pT, pV, pR, pF, pm, ps⟩ (([] : List ResP).map (·.r)) = [] by simp [topN], hX] at HRUN
            rw [show scopeR ⟨pk, pT, pV, pR, pF, pm, ps⟩ [] = false by unfold scopeR; rw [show (pk == 8) = false from g8]; rfl, Bool.or_false] at HRUN
            rw [hX] at HM2
            clear hX hk8 hk9 HNX HST HMD HGD
            have e1 : IntKind.i64.wrap (-(0 : Int)) = 0 := by decide
            go_wp2_with fail
            refine (HND.out _).mono ?_
            rintro e2' w2 ⟨rfl, hb2⟩
            have HX2 := Lib.hid ((HNEW.out _).on hb2)
            clear hb2 c0 c1 c2 c3 c4 c5 c6
            obtain ⟨c0, c1, c2, c3, c4, c5, c6⟩ := HX.out _ HX2.out
            have hlt2 := HX2.out.2.2
            have HB2 := Lib.hid (HR.out.below.trans (HX2.out.2.1.mono HR.out.below.size))
            go_wp2_with fail
            refine (HRT.out _ (HIN.out _ HB2.out)).mono ?_
            rintro e3 w3 ⟨rfl, hb3⟩
            have HX3 := Lib.hid (HX2.out.on hb3)
            clear hb3 c0 c1 c2 c3 c4 c5 c6 hlt2
            obtain ⟨c0, c1, c2, c3, c4, c5, c6⟩ := HX.out _ HX3.out
            have hlt3 := HX3.out.2.2
            have HB3 := Lib.hid (HR.out.below.trans (HX3.out.2.1.mono HR.out.below.size))
            go_upto_region 15 with fail
            go_quiet (fail)
            go_wp2_with fail
            refine (HM2.out _ _ _ (HIN.out _ (by first | exact HB3.out | exact drew_below HB3.out _)) (⟨rfl, Nat.le_refl _, Nat.zero_le _, fun h => absurd h (Nat.lt_irrefl _)⟩)).mono ?_
            rintro e5 w5 ⟨p5, q5, rfl, hp5, hq5, hb5⟩
            have HP5 := Lib.hid hp5
            have HQ5 := Lib.hid hq5
            have H5 := Lib.hid (show Below W1.heap.size W1 w5 from (by first | exact HX3.out.2.1.trans (hb5.mono HX3.out.2.1.size) | exact ((drew_below HX3.out.2.1 _).trans (hb5.mono (drew_below HX3.out.2.1 _).size))))
            clear hp5 hq5 hb5
            have hz5 := H5.out.size
            have hzb := HR.out.below.size
            have HOA7 := Lib.hid (fun o1 o2 => (show ((w5.alloc o1).alloc o2).ownsRow w.heap.size 35 4 u4 all.length (resCells all) from ((HR.out.oa.on H5.out).alloc o1).alloc o2))
            have HB7 := Lib.hid (fun o1 o2 => (show Below w5.heap.size w5 ((w5.alloc o1).alloc o2) from (box_below w5 o1).alloc (by simp) o2))
            have HBL7 := Lib.hid (fun (o2 : Obj) => blk_alloc (blk_new w5 35 #[.int .i64 (X.f : Int), .bool X.v, .map p5, .map q5]) o2)
            have HVL := Lib.hid (fun b (hb : u4.ownBlock = some b) => (HR.out.oa.lt b hb).2)
            go_upto_region 19 with (at_builtin; go_must (refine wpList_append_lies _ rfl (.tmp 66) (.tmp 68) 52 rfl w.heap.size 35 i0 (.agg #[.int .i64 0, .bool false, .map none, .map none]) 4 32 Try.underlying52 hi hz0 hz1 hz2 rfl (by decide) _ _ _ rfl (HOA7.out _ _) ⟨w5.heap.size + 1, 0, none⟩ 1 1 [.int .i64 X.f, .bool X.v, .map p5, .map q5] rfl rfl (by have h := news4 (w5.alloc (.cells #[.int .i64 (X.f : Int), .bool X.v, .map p5, .map q5] 35)) (.int .i64 (X.f : Int)) (.bool X.v) (.map p5) (.map q5) 35; rw [show (w5.alloc (.cells #[.int .i64 (X.f : Int), .bool X.v, .map p5, .map q5] 35)).heap.size = w5.heap.size + 1 by simp] at h; exact h) (by intro u hu; simp at hu; rcases hu with rfl | rfl | rfl | rfl <;> rfl) (by decide) (by have := HAL.out; unfold maxLen; omega) (by have := HAL.out; omega) (by simp; omega) _ rfl ?_; intro ga ca w8 hown8 hgr8 hat8 hlt8; have HO8 := Lib.hid hown8; have HG8 := Lib.hid hgr8; have HT8 := Lib.hid hat8; have HL8 := Lib.hid hlt8; clear hown8 hgr8 hat8 hlt8))
            have HRB8 : Hid (Blk w8 w5.heap.size 35 #[.int .i64 (X.f : Int), .bool X.v, .map p5, .map q5]) := Lib.hid (by
              have h1 := HBL7.out (.cells #[.int .i64 (X.f : Int), .bool X.v, .map p5, .map q5] 35)
              unfold Blk at h1 ⊢
              rw [HG8.out.block _ (by simp; omega) (fun e1 => by have := HVL.out _ e1.symm; omega)]; exact h1)
            have hz8 : w5.heap.size + 1 + 1 ≤ w8.heap.size := by have := HG8.out.size; simp at this; omega
            have r0 : w8.cell? ⟨w5.heap.size, 0, none⟩ = some (.int .i64 (X.f : Int)) := (blk_cell HRB8.out 0).trans rfl
            have r1 : w8.cell? ⟨w5.heap.size, 1, none⟩ = some (.bool X.v) := (blk_cell HRB8.out 1).trans rfl
            have r2 : w8.cell? ⟨w5.heap.size, 2, none⟩ = some (.map p5) := (blk_cell HRB8.out 2).trans rfl
            have r3 : w8.cell? ⟨w5.heap.size, 3, none⟩ = some (.map q5) := (blk_cell HRB8.out 3).trans rfl
            have HRB9 := Lib.hid (blk_alloc (show Blk w8.drew w5.heap.size 35 #[.int .i64 (X.f : Int), .bool X.v, .map p5, .map q5] from HRB8.out) (.cells #[.int .i64 (X.f : Int), .bool X.v, .map p5, .map q5] 35))
            have HB9 := Lib.hid (show Below w8.heap.size w8 (w8.drew.alloc (.cells #[.int .i64 (X.f : Int), .bool X.v, .map p5, .map q5] 35)) from (Below.refl _ _).drew.trans (box_below w8.drew _))
            have HOO8 := Lib.hid (show OwnR (w8.drew.alloc (.cells #[.int .i64 (X.f : Int), .bool X.v, .map p5, .map q5] 35)) w.heap.size (.slice none 0 0) (([] : List ResP).take 0) from World.ownsRow_nil _ _ _ _)
            have HNB : Hid (∀ b, (Value.slice none 0 0).ownBlock = some b → b < W1.heap.size) := Lib.hid (fun b h => by cases h)
            have HQL := Lib.hid (show (([] : List ResP).take 0).length = 0 from rfl)
            refine wp_region_held_drew (S := (fun WW => WW.cell? ⟨w5.heap.size, 0, none⟩ = some (.int .i64 (X.f : Int)) ∧ WW.cell? ⟨w5.heap.size, 1, none⟩ = some (.bool X.v) ∧ WW.cell? ⟨w5.heap.size, 2, none⟩ = some (.map p5) ∧ WW.cell? ⟨w5.heap.size, 3, none⟩ = some (.map q5))) (by kernel_rfl) ?_ (fun hHeld => ?_)
            · (try dsimp only); exact ⟨r0, r1, r2, r3⟩
            refine wpAnyH_take (i := 0) (oi := ⟨some 70, _, _, _, _, _⟩) (v := ?_) rfl (by kernel_rfl) (by kernel_rfl) (by kernel_rfl) (fun _ _ _ h => h) (Or.inl ⟨by kernel_rfl, ?_⟩) (by assumption) ?_
            rotate_left
            · (intro ww hSw; (try dsimp only at hSw); go_simp); (try with_reducible rfl)
            (try simp only [Act.put, List.setIfInBounds_toArray, List.set_cons_zero, List.set_cons_succ])
            refine wpAnyH_take (i := 1) (oi := ⟨some 71, _, _, _, _, _⟩) (v := ?_) rfl (by kernel_rfl) (by kernel_rfl) (by kernel_rfl) (fun _ _ _ h => h) (Or.inl ⟨by kernel_rfl, ?_⟩) (by assumption) ?_
            rotate_left
            · (intro ww hSw; (try dsimp only at hSw); go_simp); (try with_reducible rfl)
            (try simp only [Act.put, List.setIfInBounds_toArray, List.set_cons_zero, List.set_cons_succ])
            refine wpAnyH_take (i := 2) (oi := ⟨some 72, _, _, _, _, _⟩) (v := ?_) rfl (by kernel_rfl) (by kernel_rfl) (by kernel_rfl) (fun _ _ _ h => h) (Or.inl ⟨by kernel_rfl, ?_⟩) (by assumption) ?_
            rotate_left
            · (intro ww hSw; (try dsimp only at hSw); go_simp); (try with_reducible rfl)
            (try simp only [Act.put, List.setIfInBounds_toArray, List.set_cons_zero, List.set_cons_succ])
            refine wpAnyH_take (i := 3) (oi := ⟨some 73, _, _, _, _, _⟩) (v := ?_) rfl (by kernel_rfl) (by kernel_rfl) (by kernel_rfl) (fun _ _ _ h => h) (Or.inl ⟨by kernel_rfl, ?_⟩) (by assumption) ?_
            rotate_left
            · (intro ww hSw; (try dsimp only at hSw); go_simp); (try with_reducible rfl)
            (try simp only [Act.put, List.setIfInBounds_toArray, List.set_cons_zero, List.set_cons_succ])
            refine wpAnyH_ready (rs := [4]) (by kernel_rfl) (by simp) ?_
            refine AllReadyH.cons rfl (fun K hK => ?_) AllReadyH.nil
            go_simp
            refine hK.out _ _ ?_ (fun hHeld => ?_)
            · (try dsimp only); exact ⟨(blk_cell HRB9.out 0).trans rfl, (blk_cell HRB9.out 1).trans rfl, (blk_cell HRB9.out 2).trans rfl, (blk_cell HRB9.out 3).trans rfl⟩
            clear hK K
            (try simp only [Act.put, List.setIfInBounds_toArray, List.set_cons_zero, List.set_cons_succ])
            refine wpAnyH_ready (rs := [5]) (by kernel_rfl) (by simp) ?_
            refine AllReadyH.cons rfl (fun K hK => ?_) AllReadyH.nil
            refine wp_append_lies _ (.tmp 72) (.tmp 74) 52 rfl w.heap.size 35 i0 (.agg #[.int .i64 0, .bool false, .map none, .map none]) 4 32 Try.underlying52 hi hz0 hz1 hz2 rfl (by decide) (.slice none 0 0) 0 (resCells (([] : List ResP).take 0)) rfl (by have h := HOO8.out; unfold OwnR at h; rw [HQL.out] at h; exact h) ⟨w8.heap.size, 0, none⟩ 1 1 [.int .i64 X.f, .bool X.v, .map p5, .map q5] rfl rfl (news4 w8.drew _ _ _ _ _) (by intro u hu; simp at hu; rcases hu with rfl | rfl | rfl | rfl <;> rfl) (by decide) (by unfold maxLen; omega) (by omega) (by show w.heap.size ≤ _; simp; have h2 : w8.drew.heap.size = w8.heap.size := rfl; omega) _ rfl ?_
            intro go co w9 hown9 hgr9 hat9 hlt9
            have HO9 := Lib.hid hown9
            have HG9 := Lib.hid hgr9
            have HT9 := Lib.hid hat9
            have HRC : Hid (Blk w9 w5.heap.size 35 #[.int .i64 (X.f : Int), .bool X.v, .map p5, .map q5]) := Lib.hid (by
              have h1 := HRB9.out
              unfold Blk at h1 ⊢
              rw [HG9.out.block _ (by have h2 : w8.drew.heap.size = w8.heap.size := rfl; simp; omega) (fun e1 => by have := HNB.out _ e1.symm; omega)]; exact h1)
            clear hown9 hgr9 hat9 hlt9 r0 r1 r2 r3
            change K (Act.put _ (some 75) _) _
            refine hK.out _ _ ?_ (fun hHeld => ?_)
            · (try dsimp only); exact ⟨(blk_cell HRC.out 0).trans rfl, (blk_cell HRC.out 1).trans rfl, (blk_cell HRC.out 2).trans rfl, (blk_cell HRC.out 3).trans rfl⟩
            clear hK K
            (try simp only [Act.put, List.setIfInBounds_toArray, List.set_cons_zero, List.set_cons_succ])
            refine wpAnyH_take (i := 6) (oi := ⟨some 5, _, _, _, _, _⟩) (v := ?_) rfl (by kernel_rfl) (by kernel_rfl) (by kernel_rfl) (fun _ _ _ h => h) (Or.inl ⟨by kernel_rfl, ?_⟩) (by assumption) ?_
            rotate_left
            · (intro ww hSw; (try dsimp only at hSw); go_simp); (try with_reducible rfl)
            (try simp only [Act.put, List.setIfInBounds_toArray, List.set_cons_zero, List.set_cons_succ])
            refine wpAnyH_done (by kernel_rfl) ?_ _
            have HFIN := Lib.hid (runW_next (op := ([] : List ResP)) (q := 0) (x := ⟨X, p5, q5⟩) (E' := E) (e' := e) HR.out HR.out.err (HRUN.out) H5.out HP5.out HQ5.out (HB7.out _ _) HO8.out HG8.out HT8.out HL8.out HB9.out HO9.out HQL.out HOO8.out HG9.out rfl HT9.out)
            go_wp2
            go_roundg gg
            case measure => omega
            case rel => exact ⟨k + 1, _, _, _, _, by go_num, rfl, by omega, HFIN⟩
      · obtain ⟨M, hM⟩ : ∃ M, op.length = M := ⟨_, rfl⟩
        rw [hM] at HR hfew ⊢
        have HM := Lib.hid hM
        clear hM
        obtain ⟨hl1, hl2, hl3, hl4, hl5⟩ := OwnR.len HR.out.oo
        rw [HM.out] at hl2
        unfold maxLen at hl3
        clear hl1
        by_cases hxm : (M : Int) < x
        · have HSTOP := Lib.hid (HST.out (fun h => by have h1 := HGD.out h.1; have h2 := h.2.1; rw [List.length_map, HM.out] at h2; omega))
          obtain ⟨S, hS⟩ : ∃ S, (M : Int) - x = S := ⟨_, rfl⟩
          have e1 : IntKind.i64.wrap S = S := IntWalk.i64_in _ (by omega)
          have s0 : S < 0 := by omega
          clear hxm HNX HST HMD HGD
          go_wp2_with fail
          refine (HND.out _).mono ?_
          rintro e2' w2 ⟨rfl, hb2⟩
          have HX2 := Lib.hid ((HNEW.out _).on hb2)
          clear hb2 c0 c1 c2 c3 c4 c5 c6
          obtain ⟨c0, c1, c2, c3, c4, c5, c6⟩ := HX.out _ HX2.out
          have hlt2 := HX2.out.2.2
          have HB2 := Lib.hid (HR.out.below.trans (HX2.out.2.1.mono HR.out.below.size))
          go_wp2
          refine bodyPost_ret (v := .tuple #[.slice none 0 0, .int .i64 2]) (by simp [results, Try.results13, go_sem]) rfl (res_none HLC.out HSTOP.out HB2.out)
        cases G with
        | false =>
          have HSTOP := Lib.hid (HST.out (fun h => by cases h.1))
          obtain ⟨S, hS⟩ : ∃ S, (M : Int) - x = S := ⟨_, rfl⟩
          have e1 : IntKind.i64.wrap S = S := IntWalk.i64_in _ (by omega)
          have s0 : ¬ S < 0 := by omega
          clear hxm HNX HST HMD HGD
          go_wp2_with fail
          refine (HND.out _).mono ?_
          rintro e2' w2 ⟨rfl, hb2⟩
          have HX2 := Lib.hid ((HNEW.out _).on hb2)
          clear hb2 c0 c1 c2 c3 c4 c5 c6
          obtain ⟨c0, c1, c2, c3, c4, c5, c6⟩ := HX.out _ HX2.out
          have hlt2 := HX2.out.2.2
          have HB2 := Lib.hid (HR.out.below.trans (HX2.out.2.1.mono HR.out.below.size))
          go_wp2_with fail
          refine (HRT.out _ (HIN.out _ HB2.out)).mono ?_
          rintro e3 w3 ⟨rfl, hb3⟩
          have HX3 := Lib.hid (HX2.out.on hb3)
          clear hb3 c0 c1 c2 c3 c4 c5 c6 hlt2
          obtain ⟨c0, c1, c2, c3, c4, c5, c6⟩ := HX.out _ HX3.out
          have hlt3 := HX3.out.2.2
          have HB3 := Lib.hid (HR.out.below.trans (HX3.out.2.1.mono HR.out.below.size))
          go_wp2
          refine bodyPost_ret (v := .tuple #[.slice none 0 0, .int .i64 2]) (by simp [results, Try.results13, go_sem]) rfl (res_none HLC.out HSTOP.out HB3.out)
        | true =>
          obtain rfl := HGD.out rfl
          obtain ⟨q, hq⟩ : ∃ q, q + D = M := ⟨M - D, by omega⟩
          obtain ⟨cq, hcq⟩ : ∃ cq, q + cq = cap2 := ⟨cap2 - q, by omega⟩
          have e1 : (M : Int) - (D : Int) = (q : Int) := by omega
          have e2 : IntKind.i64.wrap (q : Int) = (q : Int) := IntWalk.i64_in _ (by omega)
          have e3 : M - q = D := by omega
          have e4 : cap2 - q = cq := by omega
          have q0 : ¬ (q : Int) < 0 := by omega
          have q00 : (0 : Int) ≤ (q : Int) := by omega
          have q1 : (q : Int) ≤ (M : Int) := by omega
          have q2 : (q : Int) ≤ (cap2 : Int) := by omega
          have q3 : (M : Int) ≤ (cap2 : Int) := by omega
          have HTN := Lib.hid (show topN ⟨pk, pT, pV, pR, pF, pm, ps⟩ (op.map (·.r)) = (op.drop q).map (·.r) by
            unfold topN
            rw [HDE.out, List.length_map, HM.out, List.map_drop, show M - D = q by omega])
          have HTK := Lib.hid (show (op.map (·.r)).take ((op.map (·.r)).length - D) = (op.take q).map (·.r) by
            rw [List.length_map, HM.out, List.map_take, show M - D = q by omega])
          have HNL := Lib.hid (show ((op.drop q).map (·.r)).length = D by rw [List.length_map, List.length_drop, HM.out]; omega)
          have HNX2 := Lib.hid (fun h3 => HNX.out rfl (by rw [List.length_map, HM.out]; omega) h3)
          have HST2 := Lib.hid (fun (h3 : nestR ⟨pk, pT, pV, pR, pF, pm, ps⟩ (topN ⟨pk, pT, pV, pR, pF, pm, ps⟩ (op.map (·.r))) = true) => HST.out (fun h => by have := h.2.2; rw [h3] at this; cases this))
          have HM2 := Lib.hid (fun a' c' W h1 h2 => HMD.out rfl ((op.drop q).map (·.r)) HNL.out (fun r hr => by
            obtain ⟨y, hy, rfl⟩ := List.mem_map.1 hr
            exact HTOT.out y (List.mem_of_mem_drop hy)) a' D c' W h1 h2)
          rw [HTN.out, HTK.out] at HNX2
          rw [HTN.out] at HST2
          have HRES := Lib.hid (fun (W : World) (hb : Below W1.heap.size W1 W) => (OwnR.drop (HR.out.oo.on hb) (HR.out.so.on (mapsOn_below hb)) (n := q) (m := D) (c := cq) (by rw [HM.out]; exact hq) hcq : ResA W (some ⟨g2, q * 4, none⟩) D cq ((op.drop q).map (·.r))))
          obtain ⟨X, hX⟩ : ∃ X, madeR ⟨pk, pT, pV, pR, pF, pm, ps⟩ k ((op.drop q).map (·.r)) = X := ⟨_, rfl⟩
          rw [hX] at HNX2 HM2
          clear hX HNX HST HMD HGD hxm
          by_cases h8 : pk = 8
          · have hD1 : D = 1 := by have := HDE.out; rw [nd_of.2.2.2.1 h8] at this; omega
            subst h8
            subst hD1
            have e1b : (M : Int) - 1 = (q : Int) := by omega
            have hqL : q < op.length := by rw [HM.out]; omega
            have hcapn : ¬ cap2 = q := by omega
            have HN0 := Lib.hid (show ((op.drop q).map (·.r)).getD 0 noR = op[q].r by
              rw [List.getD_eq_getElem?_getD, List.getElem?_map, List.getElem?_drop, Nat.add_zero, List.getElem?_eq_getElem hqL]; rfl)
            have HAT := Lib.hid (fun (W : World) (hb : Below W1.heap.size W1 W) => OwnR.at_ (HR.out.oo.on hb) (HR.out.so.on (mapsOn_below hb)) hqL)
            generalize op[q].r = r0 at HN0 HAT
            obtain ⟨r0f, r0v, r0s, r0c⟩ := r0
            clear hq
            have hsc := Lib.hid (show scopeR ⟨8, pT, pV, pR, pF, pm, ps⟩ ((op.drop q).map (·.r)) = inL r0s pm by unfold scopeR; rw [HN0.out]; rfl)
            have HRUN := Lib.hid (HNX2.out rfl)
            rw [hsc.out] at HRUN
            obtain ⟨b, hb_⟩ : ∃ b, inL r0s pm = b := ⟨_, rfl⟩
            have HIL := Lib.hid hb_
            rw [hb_] at HRUN
            clear hb_ hsc
            cases b with
            | true =>
              rw [Bool.or_true] at HRUN
              go_wp2_with fail
              refine (HND.out _).mono ?_
              rintro e2' w2 ⟨rfl, hb2⟩
              have HX2 := Lib.hid ((HNEW.out _).on hb2)
              clear hb2 c0 c1 c2 c3 c4 c5 c6
              obtain ⟨c0, c1, c2, c3, c4, c5, c6⟩ := HX.out _ HX2.out
              have hlt2 := HX2.out.2.2
              have HB2 := Lib.hid (HR.out.below.trans (HX2.out.2.1.mono HR.out.below.size))
              go_wp2_with fail
              refine (HRT.out _ (HIN.out _ HB2.out)).mono ?_
              rintro e3 w3 ⟨rfl, hb3⟩
              have HX3 := Lib.hid (HX2.out.on hb3)
              clear hb3 c0 c1 c2 c3 c4 c5 c6 hlt2
              obtain ⟨c0, c1, c2, c3, c4, c5, c6⟩ := HX.out _ HX3.out
              have hlt3 := HX3.out.2.2
              have HB3 := Lib.hid (HR.out.below.trans (HX3.out.2.1.mono HR.out.below.size))
              obtain ⟨pp, qq, d0, d1, d2, d3, hs0, hs1⟩ := HAT.out _ HX3.out.2.1
              dsimp only at d0 d1 d2 d3 hs0 hs1
              have HS0 := Lib.hid hs0
              have HS1 := Lib.hid hs1
              have hg3 : g2 < w3.heap.size := Nat.lt_of_lt_of_le hl5 HX3.out.2.1.size
              clear hs0 hs1
              go_upto_region 15 with fail
              have HD3 := Lib.hid (show OpBox W1 ⟨8, pT, pV, pR, pF, pm, ps⟩ ⟨ta, tn, tc, va', vn, vc, ra, rn, rc, fa, fn, fc⟩ w3.drew from HX3.out.on (Below.refl _ _).drew)
              refine wp_region_held_drew (S := (fun WW => WW.cell? ⟨W1.heap.size, 0, none⟩ = some (.int .i64 8) ∧ WW.cell? ⟨W1.heap.size, 5, none⟩ = some (.string (bs pm)) ∧ WW.cell? ⟨g2, q * 4 + 2, none⟩ = some (.map pp))) (by kernel_rfl) ?_ (fun hHeld => ?_)
              · (try dsimp only); exact ⟨c0, c5, d2⟩
              refine wpAnyH_take (i := 0) (oi := ⟨some 49, _, _, _, _, _⟩) (v := ?_) rfl (by kernel_rfl) (by kernel_rfl) (by kernel_rfl) (fun _ _ _ h => h) (Or.inl ⟨by kernel_rfl, ?_⟩) (by assumption) ?_
              rotate_left
              · (intro ww hSw; (try dsimp only at hSw); go_simp); (try with_reducible rfl)
              (try simp only [Act.put, List.setIfInBounds_toArray, List.set_cons_zero, List.set_cons_succ])
              refine wpAnyH_take (i := 1) (oi := ⟨some 50, _, _, _, _, _⟩) (v := ?_) rfl (by kernel_rfl) (by kernel_rfl) (by kernel_rfl) (fun _ _ _ h => h) (Or.inl ⟨by kernel_rfl, ?_⟩) (by assumption) ?_
              rotate_left
              · (intro ww hSw; (try dsimp only at hSw); go_simp); (try with_reducible rfl)
              (try simp only [Act.put, List.setIfInBounds_toArray, List.set_cons_zero, List.set_cons_succ])
              refine wpAnyH_take (i := 2) (oi := ⟨some 51, _, _, _, _, _⟩) (v := ?_) rfl (by kernel_rfl) (by kernel_rfl) (by kernel_rfl) (fun _ _ _ h => h) (Or.inl ⟨by kernel_rfl, ?_⟩) (by assumption) ?_
              rotate_left
              · (intro ww hSw; (try dsimp only at hSw); go_simp); (try with_reducible rfl)
              (try simp only [Act.put, List.setIfInBounds_toArray, List.set_cons_zero, List.set_cons_succ])
              refine wpAnyH_take (i := 3) (oi := ⟨some 52, _, _, _, _, _⟩) (v := ?_) rfl (by kernel_rfl) (by kernel_rfl) (by kernel_rfl) (fun _ _ _ h => h) (Or.inl ⟨by kernel_rfl, ?_⟩) (by assumption) ?_
              rotate_left
              · (intro ww hSw; (try dsimp only at hSw); go_simp); (try with_reducible rfl)
              (try simp only [Act.put, List.setIfInBounds_toArray, List.set_cons_zero, List.set_cons_succ])
              refine wpAnyH_take (i := 4) (oi := ⟨some 53, _, _, _, _, _⟩) (v := ?_) rfl (by kernel_rfl) (by kernel_rfl) (by kernel_rfl) (fun _ _ _ h => h) (Or.inl ⟨by kernel_rfl, ?_⟩) (by assumption) ?_
              rotate_left
              · (intro ww hSw; (try dsimp only at hSw); go_simp); (try with_reducible rfl)
              (try simp only [Act.put, List.setIfInBounds_toArray, List.set_cons_zero, List.set_cons_succ])
              refine wpAnyH_take (i := 5) (oi := ⟨some 54, _, _, _, _, _⟩) (v := ?_) rfl (by kernel_rfl) (by kernel_rfl) (by kernel_rfl) (fun _ _ _ h => h) (Or.inl ⟨by kernel_rfl, ?_⟩) (by assumption) ?_
              rotate_left
              · (intro ww hSw; (try dsimp only at hSw); go_simp); (try with_reducible rfl)
              (try simp only [Act.put, List.setIfInBounds_toArray, List.set_cons_zero, List.set_cons_succ])
              refine wpAnyH_take (i := 6) (oi := ⟨some 55, _, _, _, _, _⟩) (v := ?_) rfl (by kernel_rfl) (by kernel_rfl) (by kernel_rfl) (fun _ _ _ h => h) (Or.inl ⟨by kernel_rfl, ?_⟩) (by assumption) ?_
              rotate_left
              · (intro ww hSw; (try dsimp only at hSw); go_simp); (try with_reducible rfl)
              (try simp only [Act.put, List.setIfInBounds_toArray, List.set_cons_zero, List.set_cons_succ])
              refine wpAnyH_take (i := 7) (oi := ⟨some 56, _, _, _, _, _⟩) (v := ?_) rfl (by kernel_rfl) (by kernel_rfl) (by kernel_rfl) (fun _ _ _ h => h) (Or.inl ⟨by kernel_rfl, ?_⟩) (by assumption) ?_
              rotate_left
              · (intro ww hSw; (try dsimp only at hSw); go_simp); (try with_reducible rfl)
              (try simp only [Act.put, List.setIfInBounds_toArray, List.set_cons_zero, List.set_cons_succ])
              refine wpAnyH_take (i := 8) (oi := ⟨some 57, _, _, _, _, _⟩) (v := ?_) rfl (by kernel_rfl) (by kernel_rfl) (by kernel_rfl) (fun _ _ _ h => h) (Or.inl ⟨by kernel_rfl, ?_⟩) (by assumption) ?_
              rotate_left
              · (intro ww hSw; (try dsimp only at hSw); go_simp); (try with_reducible rfl)
              (try simp only [Act.put, List.setIfInBounds_toArray, List.set_cons_zero, List.set_cons_succ])
              refine wpAnyH_take (i := 9) (oi := ⟨some 58, _, _, _, _, _⟩) (v := ?_) rfl (by kernel_rfl) (by kernel_rfl) (by kernel_rfl) (fun _ _ _ h => h) (Or.inl ⟨by kernel_rfl, ?_⟩) (by assumption) ?_
              rotate_left
              · (intro ww hSw; (try dsimp only at hSw); go_simp); (try with_reducible rfl)
              (try simp only [Act.put, List.setIfInBounds_toArray, List.set_cons_zero, List.set_cons_succ])
              refine wpAnyH_take (i := 10) (oi := ⟨some 59, _, _, _, _, _⟩) (v := ?_) rfl (by kernel_rfl) (by kernel_rfl) (by kernel_rfl) (fun _ _ _ h => h) (Or.inl ⟨by kernel_rfl, ?_⟩) (by assumption) ?_
              rotate_left
              · (intro ww hSw; (try dsimp only at hSw); go_simp); (try with_reducible rfl)
              (try simp only [Act.put, List.setIfInBounds_toArray, List.set_cons_zero, List.set_cons_succ])
              refine wpAnyH_ready (rs := [11]) (by kernel_rfl) (by simp) ?_
              refine AllReadyH.cons rfl (fun K hK => ?_) AllReadyH.nil
              go_simp
              refine (setHas_calls r0s pm pp _ (show SetA w3.drew pp r0s from HS0.out) HOO.out.m).mono ?_
              rintro e4 w4 ⟨rfl, hb4⟩
              rw [HIL.out]
              have HX4 := Lib.hid (HD3.out.on hb4)
              have HB4 := Lib.hid (HR.out.below.trans (HX4.out.2.1.mono HR.out.below.size))
              obtain ⟨i0_, i1_, i2_, i3_, i4_, i5_, i6_⟩ := HX.out _ HX4.out
              have d2' := (hb4.cell (p := ⟨g2, q * 4 + 2, none⟩) hg3).trans d2
              clear hb4
              go_wp2_with fail
              refine hK.out _ _ ?_ (fun hHeld => ?_)
              · (try dsimp only); exact ⟨i0_, i5_, d2'⟩
              clear hK K
              (try simp only [Act.put, List.setIfInBounds_toArray, List.set_cons_zero, List.set_cons_succ])
              refine wpAnyH_take (i := 12) (oi := ⟨some 61, _, _, _, _, _⟩) (v := ?_) rfl (by kernel_rfl) (by kernel_rfl) (by kernel_rfl) (fun _ _ _ h => h) (Or.inl ⟨by kernel_rfl, ?_⟩) (by assumption) ?_
              rotate_left
              · (intro ww hSw; (try dsimp only at hSw); go_simp); (try with_reducible rfl)
              (try simp only [Act.put, List.setIfInBounds_toArray, List.set_cons_zero, List.set_cons_succ])
              refine wpAnyH_done (by kernel_rfl) ?_ _
              go_wp2_with fail
              refine (HM2.out _ _ _ (HIN.out _ (by first | exact HB4.out | exact drew_below HB4.out _)) (by first | exact HRES.out _ HX4.out.2.1 | exact HRES.out _ (drew_below HX4.out.2.1 _))).mono ?_
              rintro e5 w5 ⟨p5, q5, rfl, hp5, hq5, hb5⟩
              have HP5 := Lib.hid hp5
              have HQ5 := Lib.hid hq5
              have H5 := Lib.hid (show Below W1.heap.size W1 w5 from (by first | exact HX4.out.2.1.trans (hb5.mono HX4.out.2.1.size) | exact ((drew_below HX4.out.2.1 _).trans (hb5.mono (drew_below HX4.out.2.1 _).size))))
              clear hp5 hq5 hb5
              have hz5 := H5.out.size
              have hzb := HR.out.below.size
              have HOA7 := Lib.hid (fun o1 o2 => (show ((w5.alloc o1).alloc o2).ownsRow w.heap.size 35 4 u4 all.length (resCells all) from ((HR.out.oa.on H5.out).alloc o1).alloc o2))
              have HB7 := Lib.hid (fun o1 o2 => (show Below w5.heap.size w5 ((w5.alloc o1).alloc o2) from (box_below w5 o1).alloc (by simp) o2))
              have HBL7 := Lib.hid (fun (o2 : Obj) => blk_alloc (blk_new w5 35 #[.int .i64 (X.f : Int), .bool X.v, .map p5, .map q5]) o2)
              have HVL := Lib.hid (fun b (hb : u4.ownBlock = some b) => (HR.out.oa.lt b hb).2)
              go_upto_region 19 with (at_builtin; go_must (refine wpList_append_lies _ rfl (.tmp 66) (.tmp 68) 52 rfl w.heap.size 35 i0 (.agg #[.int .i64 0, .bool false, .map none, .map none]) 4 32 Try.underlying52 hi hz0 hz1 hz2 rfl (by decide) _ _ _ rfl (HOA7.out _ _) ⟨w5.heap.size + 1, 0, none⟩ 1 1 [.int .i64 X.f, .bool X.v, .map p5, .map q5] rfl rfl (by have h := news4 (w5.alloc (.cells #[.int .i64 (X.f : Int), .bool X.v, .map p5, .map q5] 35)) (.int .i64 (X.f : Int)) (.bool X.v) (.map p5) (.map q5) 35; rw [show (w5.alloc (.cells #[.int .i64 (X.f : Int), .bool X.v, .map p5, .map q5] 35)).heap.size = w5.heap.size + 1 by simp] at h; exact h) (by intro u hu; simp at hu; rcases hu with rfl | rfl | rfl | rfl <;> rfl) (by decide) (by have := HAL.out; unfold maxLen; omega) (by have := HAL.out; omega) (by simp; omega) _ rfl ?_; intro ga ca w8 hown8 hgr8 hat8 hlt8; have HO8 := Lib.hid hown8; have HG8 := Lib.hid hgr8; have HT8 := Lib.hid hat8; have HL8 := Lib.hid hlt8; clear hown8 hgr8 hat8 hlt8))
              have HRB8 : Hid (Blk w8 w5.heap.size 35 #[.int .i64 (X.f : Int), .bool X.v, .map p5, .map q5]) := Lib.hid (by
                have h1 := HBL7.out (.cells #[.int .i64 (X.f : Int), .bool X.v, .map p5, .map q5] 35)
                unfold Blk at h1 ⊢
                rw [HG8.out.block _ (by simp; omega) (fun e1 => by have := HVL.out _ e1.symm; omega)]; exact h1)
              have hz8 : w5.heap.size + 1 + 1 ≤ w8.heap.size := by have := HG8.out.size; simp at this; omega
              have r0 : w8.cell? ⟨w5.heap.size, 0, none⟩ = some (.int .i64 (X.f : Int)) := (blk_cell HRB8.out 0).trans rfl
              have r1 : w8.cell? ⟨w5.heap.size, 1, none⟩ = some (.bool X.v) := (blk_cell HRB8.out 1).trans rfl
              have r2 : w8.cell? ⟨w5.heap.size, 2, none⟩ = some (.map p5) := (blk_cell HRB8.out 2).trans rfl
              have r3 : w8.cell? ⟨w5.heap.size, 3, none⟩ = some (.map q5) := (blk_cell HRB8.out 3).trans rfl
              have HRB9 := Lib.hid (blk_alloc (show Blk w8.drew w5.heap.size 35 #[.int .i64 (X.f : Int), .bool X.v, .map p5, .map q5] from HRB8.out) (.cells #[.int .i64 (X.f : Int), .bool X.v, .map p5, .map q5] 35))
              have HB9 := Lib.hid (show Below w8.heap.size w8 (w8.drew.alloc (.cells #[.int .i64 (X.f : Int), .bool X.v, .map p5, .map q5] 35)) from (Below.refl _ _).drew.trans (box_below w8.drew _))
              have HOO7 := Lib.hid (fun o1 o2 => (HR.out.oo.on (H5.out.trans ((HB7.out o1 o2).mono H5.out.size))))
              have HOO8 := Lib.hid (show OwnR (w8.drew.alloc (.cells #[.int .i64 (X.f : Int), .bool X.v, .map p5, .map q5] 35)) w.heap.size (.slice (some ⟨g2, 0, none⟩) q cap2) (op.take q) from ((OwnR.kept (HOO7.out _ _) HG8.out (.inr (fun e1 => HR.out.apart g2 e1.symm rfl))).on HB9.out).cut (by have := HM.out; omega))
              have HNB : Hid (∀ b, (Value.slice (some ⟨g2, 0, none⟩) q cap2).ownBlock = some b → b < W1.heap.size) := Lib.hid (fun b h => (HR.out.oo.lt b h).2)
              have HQL := Lib.hid (show (op.take q).length = q by rw [List.length_take]; have := HM.out; omega)
              refine wp_region_held_drew (S := (fun WW => WW.cell? ⟨w5.heap.size, 0, none⟩ = some (.int .i64 (X.f : Int)) ∧ WW.cell? ⟨w5.heap.size, 1, none⟩ = some (.bool X.v) ∧ WW.cell? ⟨w5.heap.size, 2, none⟩ = some (.map p5) ∧ WW.cell? ⟨w5.heap.size, 3, none⟩ = some (.map q5))) (by kernel_rfl) ?_ (fun hHeld => ?_)
              · (try dsimp only); exact ⟨r0, r1, r2, r3⟩
              refine wpAnyH_take (i := 0) (oi := ⟨some 70, _, _, _, _, _⟩) (v := ?_) rfl (by kernel_rfl) (by kernel_rfl) (by kernel_rfl) (fun _ _ _ h => h) (Or.inl ⟨by kernel_rfl, ?_⟩) (by assumption) ?_
              rotate_left
              · (intro ww hSw; (try dsimp only at hSw); go_simp); (try with_reducible rfl)
              (try simp only [Act.put, List.setIfInBounds_toArray, List.set_cons_zero, List.set_cons_succ])
              refine wpAnyH_take (i := 1) (oi := ⟨some 71, _, _, _, _, _⟩) (v := ?_) rfl (by kernel_rfl) (by kernel_rfl) (by kernel_rfl) (fun _ _ _ h => h) (Or.inl ⟨by kernel_rfl, ?_⟩) (by assumption) ?_
              rotate_left
              · (intro ww hSw; (try dsimp only at hSw); go_simp); (try with_reducible rfl)
              (try simp only [Act.put, List.setIfInBounds_toArray, List.set_cons_zero, List.set_cons_succ])
              refine wpAnyH_take (i := 2) (oi := ⟨some 72, _, _, _, _, _⟩) (v := ?_) rfl (by kernel_rfl) (by kernel_rfl) (by kernel_rfl) (fun _ _ _ h => h) (Or.inl ⟨by kernel_rfl, ?_⟩) (by assumption) ?_
              rotate_left
              · (intro ww hSw; (try dsimp only at hSw); go_simp); (try with_reducible rfl)
              (try simp only [Act.put, List.setIfInBounds_toArray, List.set_cons_zero, List.set_cons_succ])
              refine wpAnyH_take (i := 3) (oi := ⟨some 73, _, _, _, _, _⟩) (v := ?_) rfl (by kernel_rfl) (by kernel_rfl) (by kernel_rfl) (fun _ _ _ h => h) (Or.inl ⟨by kernel_rfl, ?_⟩) (by assumption) ?_
              rotate_left
              · (intro ww hSw; (try dsimp only at hSw); go_simp); (try with_reducible rfl)
              (try simp only [Act.put, List.setIfInBounds_toArray, List.set_cons_zero, List.set_cons_succ])
              refine wpAnyH_ready (rs := [4]) (by kernel_rfl) (by simp) ?_
              refine AllReadyH.cons rfl (fun K hK => ?_) AllReadyH.nil
              go_simp
              refine hK.out _ _ ?_ (fun hHeld => ?_)
              · (try dsimp only); exact ⟨(blk_cell HRB9.out 0).trans rfl, (blk_cell HRB9.out 1).trans rfl, (blk_cell HRB9.out 2).trans rfl, (blk_cell HRB9.out 3).trans rfl⟩
              clear hK K
              (try simp only [Act.put, List.setIfInBounds_toArray, List.set_cons_zero, List.set_cons_succ])
              refine wpAnyH_ready (rs := [5]) (by kernel_rfl) (by simp) ?_
              refine AllReadyH.cons rfl (fun K hK => ?_) AllReadyH.nil
              refine wp_append_lies _ (.tmp 72) (.tmp 74) 52 rfl w.heap.size 35 i0 (.agg #[.int .i64 0, .bool false, .map none, .map none]) 4 32 Try.underlying52 hi hz0 hz1 hz2 rfl (by decide) (.slice (some ⟨g2, 0, none⟩) q cap2) q (resCells (op.take q)) rfl (by have h := HOO8.out; unfold OwnR at h; rw [HQL.out] at h; exact h) ⟨w8.heap.size, 0, none⟩ 1 1 [.int .i64 X.f, .bool X.v, .map p5, .map q5] rfl rfl (news4 w8.drew _ _ _ _ _) (by intro u hu; simp at hu; rcases hu with rfl | rfl | rfl | rfl <;> rfl) (by decide) (by unfold maxLen; omega) (by omega) (by show w.heap.size ≤ _; simp; have h2 : w8.drew.heap.size = w8.heap.size := rfl; omega) _ rfl ?_
              intro go co w9 hown9 hgr9 hat9 hlt9
              have HO9 := Lib.hid hown9
              have HG9 := Lib.hid hgr9
              have HT9 := Lib.hid hat9
              have HRC : Hid (Blk w9 w5.heap.size 35 #[.int .i64 (X.f : Int), .bool X.v, .map p5, .map q5]) := Lib.hid (by
                have h1 := HRB9.out
                unfold Blk at h1 ⊢
                rw [HG9.out.block _ (by have h2 : w8.drew.heap.size = w8.heap.size := rfl; simp; omega) (fun e1 => by have := HNB.out _ e1.symm; omega)]; exact h1)
              clear hown9 hgr9 hat9 hlt9 r0 r1 r2 r3
              change K (Act.put _ (some 75) _) _
              refine hK.out _ _ ?_ (fun hHeld => ?_)
              · (try dsimp only); exact ⟨(blk_cell HRC.out 0).trans rfl, (blk_cell HRC.out 1).trans rfl, (blk_cell HRC.out 2).trans rfl, (blk_cell HRC.out 3).trans rfl⟩
              clear hK K
              (try simp only [Act.put, List.setIfInBounds_toArray, List.set_cons_zero, List.set_cons_succ])
              refine wpAnyH_take (i := 6) (oi := ⟨some 5, _, _, _, _, _⟩) (v := ?_) rfl (by kernel_rfl) (by kernel_rfl) (by kernel_rfl) (fun _ _ _ h => h) (Or.inl ⟨by kernel_rfl, ?_⟩) (by assumption) ?_
              rotate_left
              · (intro ww hSw; (try dsimp only at hSw); go_simp); (try with_reducible rfl)
              (try simp only [Act.put, List.setIfInBounds_toArray, List.set_cons_zero, List.set_cons_succ])
              refine wpAnyH_done (by kernel_rfl) ?_ _
              have HFIN := Lib.hid (runW_next (op := op) (q := q) (x := ⟨X, p5, q5⟩) (E' := 6) (e' := true) HR.out rfl (HRUN.out) H5.out HP5.out HQ5.out (HB7.out _ _) HO8.out HG8.out HT8.out HL8.out HB9.out HO9.out HQL.out HOO8.out HG9.out rfl HT9.out)
              go_wp2
              go_roundg gg
              case measure => omega
              case rel => exact ⟨k + 1, _, _, _, _, by go_num, rfl, by omega, HFIN⟩
            | false =>
              rw [Bool.or_false] at HRUN
              go_wp2_with fail
              refine (HND.out _).mono ?_
              rintro e2' w2 ⟨rfl, hb2⟩
              have HX2 := Lib.hid ((HNEW.out _).on hb2)
              clear hb2 c0 c1 c2 c3 c4 c5 c6
              obtain ⟨c0, c1, c2, c3, c4, c5, c6⟩ := HX.out _ HX2.out
              have hlt2 := HX2.out.2.2
              have HB2 := Lib.hid (HR.out.below.trans (HX2.out.2.1.mono HR.out.below.size))
              go_wp2_with fail
              refine (HRT.out _ (HIN.out _ HB2.out)).mono ?_
              rintro e3 w3 ⟨rfl, hb3⟩
              have HX3 := Lib.hid (HX2.out.on hb3)
              clear hb3 c0 c1 c2 c3 c4 c5 c6 hlt2
              obtain ⟨c0, c1, c2, c3, c4, c5, c6⟩ := HX.out _ HX3.out
              have hlt3 := HX3.out.2.2
              have HB3 := Lib.hid (HR.out.below.trans (HX3.out.2.1.mono HR.out.below.size))
              obtain ⟨pp, qq, d0, d1, d2, d3, hs0, hs1⟩ := HAT.out _ HX3.out.2.1
              dsimp only at d0 d1 d2 d3 hs0 hs1
              have HS0 := Lib.hid hs0
              have HS1 := Lib.hid hs1
              have hg3 : g2 < w3.heap.size := Nat.lt_of_lt_of_le hl5 HX3.out.2.1.size
              clear hs0 hs1
              go_upto_region 15 with fail
              have HD3 := Lib.hid (show OpBox W1 ⟨8, pT, pV, pR, pF, pm, ps⟩ ⟨ta, tn, tc, va', vn, vc, ra, rn, rc, fa, fn, fc⟩ w3.drew from HX3.out.on (Below.refl _ _).drew)
              refine wp_region_held_drew (S := (fun WW => WW.cell? ⟨W1.heap.size, 0, none⟩ = some (.int .i64 8) ∧ WW.cell? ⟨W1.heap.size, 5, none⟩ = some (.string (bs pm)) ∧ WW.cell? ⟨g2, q * 4 + 2, none⟩ = some (.map pp))) (by kernel_rfl) ?_ (fun hHeld => ?_)
              · (try dsimp only); exact ⟨c0, c5, d2⟩
              refine wpAnyH_take (i := 0) (oi := ⟨some 49, _, _, _, _, _⟩) (v := ?_) rfl (by kernel_rfl) (by kernel_rfl) (by kernel_rfl) (fun _ _ _ h => h) (Or.inl ⟨by kernel_rfl, ?_⟩) (by assumption) ?_
              rotate_left
              · (intro ww hSw; (try dsimp only at hSw); go_simp); (try with_reducible rfl)
              (try simp only [Act.put, List.setIfInBounds_toArray, List.set_cons_zero, List.set_cons_succ])
              refine wpAnyH_take (i := 1) (oi := ⟨some 50, _, _, _, _, _⟩) (v := ?_) rfl (by kernel_rfl) (by kernel_rfl) (by kernel_rfl) (fun _ _ _ h => h) (Or.inl ⟨by kernel_rfl, ?_⟩) (by assumption) ?_
              rotate_left
              · (intro ww hSw; (try dsimp only at hSw); go_simp); (try with_reducible rfl)
              (try simp only [Act.put, List.setIfInBounds_toArray, List.set_cons_zero, List.set_cons_succ])
              refine wpAnyH_take (i := 2) (oi := ⟨some 51, _, _, _, _, _⟩) (v := ?_) rfl (by kernel_rfl) (by kernel_rfl) (by kernel_rfl) (fun _ _ _ h => h) (Or.inl ⟨by kernel_rfl, ?_⟩) (by assumption) ?_
              rotate_left
              · (intro ww hSw; (try dsimp only at hSw); go_simp); (try with_reducible rfl)
              (try simp only [Act.put, List.setIfInBounds_toArray, List.set_cons_zero, List.set_cons_succ])
              refine wpAnyH_take (i := 3) (oi := ⟨some 52, _, _, _, _, _⟩) (v := ?_) rfl (by kernel_rfl) (by kernel_rfl) (by kernel_rfl) (fun _ _ _ h => h) (Or.inl ⟨by kernel_rfl, ?_⟩) (by assumption) ?_
              rotate_left
              · (intro ww hSw; (try dsimp only at hSw); go_simp); (try with_reducible rfl)
              (try simp only [Act.put, List.setIfInBounds_toArray, List.set_cons_zero, List.set_cons_succ])
              refine wpAnyH_take (i := 4) (oi := ⟨some 53, _, _, _, _, _⟩) (v := ?_) rfl (by kernel_rfl) (by kernel_rfl) (by kernel_rfl) (fun _ _ _ h => h) (Or.inl ⟨by kernel_rfl, ?_⟩) (by assumption) ?_
              rotate_left
              · (intro ww hSw; (try dsimp only at hSw); go_simp); (try with_reducible rfl)
              (try simp only [Act.put, List.setIfInBounds_toArray, List.set_cons_zero, List.set_cons_succ])
              refine wpAnyH_take (i := 5) (oi := ⟨some 54, _, _, _, _, _⟩) (v := ?_) rfl (by kernel_rfl) (by kernel_rfl) (by kernel_rfl) (fun _ _ _ h => h) (Or.inl ⟨by kernel_rfl, ?_⟩) (by assumption) ?_
              rotate_left
              · (intro ww hSw; (try dsimp only at hSw); go_simp); (try with_reducible rfl)
              (try simp only [Act.put, List.setIfInBounds_toArray, List.set_cons_zero, List.set_cons_succ])
              refine wpAnyH_take (i := 6) (oi := ⟨some 55, _, _, _, _, _⟩) (v := ?_) rfl (by kernel_rfl) (by kernel_rfl) (by kernel_rfl) (fun _ _ _ h => h) (Or.inl ⟨by kernel_rfl, ?_⟩) (by assumption) ?_
              rotate_left
              · (intro ww hSw; (try dsimp only at hSw); go_simp); (try with_reducible rfl)
              (try simp only [Act.put, List.setIfInBounds_toArray, List.set_cons_zero, List.set_cons_succ])
              refine wpAnyH_take (i := 7) (oi := ⟨some 56, _, _, _, _, _⟩) (v := ?_) rfl (by kernel_rfl) (by kernel_rfl) (by kernel_rfl) (fun _ _ _ h => h) (Or.inl ⟨by kernel_rfl, ?_⟩) (by assumption) ?_
              rotate_left
              · (intro ww hSw; (try dsimp only at hSw); go_simp); (try with_reducible rfl)
              (try simp only [Act.put, List.setIfInBounds_toArray, List.set_cons_zero, List.set_cons_succ])
              refine wpAnyH_take (i := 8) (oi := ⟨some 57, _, _, _, _, _⟩) (v := ?_) rfl (by kernel_rfl) (by kernel_rfl) (by kernel_rfl) (fun _ _ _ h => h) (Or.inl ⟨by kernel_rfl, ?_⟩) (by assumption) ?_
              rotate_left
              · (intro ww hSw; (try dsimp only at hSw); go_simp); (try with_reducible rfl)
              (try simp only [Act.put, List.setIfInBounds_toArray, List.set_cons_zero, List.set_cons_succ])
              refine wpAnyH_take (i := 9) (oi := ⟨some 58, _, _, _, _, _⟩) (v := ?_) rfl (by kernel_rfl) (by kernel_rfl) (by kernel_rfl) (fun _ _ _ h => h) (Or.inl ⟨by kernel_rfl, ?_⟩) (by assumption) ?_
              rotate_left
              · (intro ww hSw; (try dsimp only at hSw); go_simp); (try with_reducible rfl)
              (try simp only [Act.put, List.setIfInBounds_toArray, List.set_cons_zero, List.set_cons_succ])
              refine wpAnyH_take (i := 10) (oi := ⟨some 59, _, _, _, _, _⟩) (v := ?_) rfl (by kernel_rfl) (by kernel_rfl) (by kernel_rfl) (fun _ _ _ h => h) (Or.inl ⟨by kernel_rfl, ?_⟩) (by assumption) ?_
              rotate_left
              · (intro ww hSw; (try dsimp only at hSw); go_simp); (try with_reducible rfl)
              (try simp only [Act.put, List.setIfInBounds_toArray, List.set_cons_zero, List.set_cons_succ])
              refine wpAnyH_ready (rs := [11]) (by kernel_rfl) (by simp) ?_
              refine AllReadyH.cons rfl (fun K hK => ?_) AllReadyH.nil
              go_simp
              refine (setHas_calls r0s pm pp _ (show SetA w3.drew pp r0s from HS0.out) HOO.out.m).mono ?_
              rintro e4 w4 ⟨rfl, hb4⟩
              rw [HIL.out]
              have HX4 := Lib.hid (HD3.out.on hb4)
              have HB4 := Lib.hid (HR.out.below.trans (HX4.out.2.1.mono HR.out.below.size))
              obtain ⟨i0_, i1_, i2_, i3_, i4_, i5_, i6_⟩ := HX.out _ HX4.out
              have d2' := (hb4.cell (p := ⟨g2, q * 4 + 2, none⟩) hg3).trans d2
              clear hb4
              go_wp2_with fail
              refine hK.out _ _ ?_ (fun hHeld => ?_)
              · (try dsimp only); exact ⟨i0_, i5_, d2'⟩
              clear hK K
              (try simp only [Act.put, List.setIfInBounds_toArray, List.set_cons_zero, List.set_cons_succ])
              refine wpAnyH_take (i := 12) (oi := ⟨some 61, _, _, _, _, _⟩) (v := ?_) rfl (by kernel_rfl) (by kernel_rfl) (by kernel_rfl) (fun _ _ _ h => h) (Or.inl ⟨by kernel_rfl, ?_⟩) (by assumption) ?_
              rotate_left
              · (intro ww hSw; (try dsimp only at hSw); go_simp); (try with_reducible rfl)
              (try simp only [Act.put, List.setIfInBounds_toArray, List.set_cons_zero, List.set_cons_succ])
              refine wpAnyH_done (by kernel_rfl) ?_ _
              go_wp2_with fail
              refine (HM2.out _ _ _ (HIN.out _ (by first | exact HB4.out | exact drew_below HB4.out _)) (by first | exact HRES.out _ HX4.out.2.1 | exact HRES.out _ (drew_below HX4.out.2.1 _))).mono ?_
              rintro e5 w5 ⟨p5, q5, rfl, hp5, hq5, hb5⟩
              have HP5 := Lib.hid hp5
              have HQ5 := Lib.hid hq5
              have H5 := Lib.hid (show Below W1.heap.size W1 w5 from (by first | exact HX4.out.2.1.trans (hb5.mono HX4.out.2.1.size) | exact ((drew_below HX4.out.2.1 _).trans (hb5.mono (drew_below HX4.out.2.1 _).size))))
              clear hp5 hq5 hb5
              have hz5 := H5.out.size
              have hzb := HR.out.below.size
              have HOA7 := Lib.hid (fun o1 o2 => (show ((w5.alloc o1).alloc o2).ownsRow w.heap.size 35 4 u4 all.length (resCells all) from ((HR.out.oa.on H5.out).alloc o1).alloc o2))
              have HB7 := Lib.hid (fun o1 o2 => (show Below w5.heap.size w5 ((w5.alloc o1).alloc o2) from (box_below w5 o1).alloc (by simp) o2))
              have HBL7 := Lib.hid (fun (o2 : Obj) => blk_alloc (blk_new w5 35 #[.int .i64 (X.f : Int), .bool X.v, .map p5, .map q5]) o2)
              have HVL := Lib.hid (fun b (hb : u4.ownBlock = some b) => (HR.out.oa.lt b hb).2)
              go_upto_region 19 with (at_builtin; go_must (refine wpList_append_lies _ rfl (.tmp 66) (.tmp 68) 52 rfl w.heap.size 35 i0 (.agg #[.int .i64 0, .bool false, .map none, .map none]) 4 32 Try.underlying52 hi hz0 hz1 hz2 rfl (by decide) _ _ _ rfl (HOA7.out _ _) ⟨w5.heap.size + 1, 0, none⟩ 1 1 [.int .i64 X.f, .bool X.v, .map p5, .map q5] rfl rfl (by have h := news4 (w5.alloc (.cells #[.int .i64 (X.f : Int), .bool X.v, .map p5, .map q5] 35)) (.int .i64 (X.f : Int)) (.bool X.v) (.map p5) (.map q5) 35; rw [show (w5.alloc (.cells #[.int .i64 (X.f : Int), .bool X.v, .map p5, .map q5] 35)).heap.size = w5.heap.size + 1 by simp] at h; exact h) (by intro u hu; simp at hu; rcases hu with rfl | rfl | rfl | rfl <;> rfl) (by decide) (by have := HAL.out; unfold maxLen; omega) (by have := HAL.out; omega) (by simp; omega) _ rfl ?_; intro ga ca w8 hown8 hgr8 hat8 hlt8; have HO8 := Lib.hid hown8; have HG8 := Lib.hid hgr8; have HT8 := Lib.hid hat8; have HL8 := Lib.hid hlt8; clear hown8 hgr8 hat8 hlt8))
              have HRB8 : Hid (Blk w8 w5.heap.size 35 #[.int .i64 (X.f : Int), .bool X.v, .map p5, .map q5]) := Lib.hid (by
                have h1 := HBL7.out (.cells #[.int .i64 (X.f : Int), .bool X.v, .map p5, .map q5] 35)
                unfold Blk at h1 ⊢
                rw [HG8.out.block _ (by simp; omega) (fun e1 => by have := HVL.out _ e1.symm; omega)]; exact h1)
              have hz8 : w5.heap.size + 1 + 1 ≤ w8.heap.size := by have := HG8.out.size; simp at this; omega
              have r0 : w8.cell? ⟨w5.heap.size, 0, none⟩ = some (.int .i64 (X.f : Int)) := (blk_cell HRB8.out 0).trans rfl
              have r1 : w8.cell? ⟨w5.heap.size, 1, none⟩ = some (.bool X.v) := (blk_cell HRB8.out 1).trans rfl
              have r2 : w8.cell? ⟨w5.heap.size, 2, none⟩ = some (.map p5) := (blk_cell HRB8.out 2).trans rfl
              have r3 : w8.cell? ⟨w5.heap.size, 3, none⟩ = some (.map q5) := (blk_cell HRB8.out 3).trans rfl
              have HRB9 := Lib.hid (blk_alloc (show Blk w8.drew w5.heap.size 35 #[.int .i64 (X.f : Int), .bool X.v, .map p5, .map q5] from HRB8.out) (.cells #[.int .i64 (X.f : Int), .bool X.v, .map p5, .map q5] 35))
              have HB9 := Lib.hid (show Below w8.heap.size w8 (w8.drew.alloc (.cells #[.int .i64 (X.f : Int), .bool X.v, .map p5, .map q5] 35)) from (Below.refl _ _).drew.trans (box_below w8.drew _))
              have HOO7 := Lib.hid (fun o1 o2 => (HR.out.oo.on (H5.out.trans ((HB7.out o1 o2).mono H5.out.size))))
              have HOO8 := Lib.hid (show OwnR (w8.drew.alloc (.cells #[.int .i64 (X.f : Int), .bool X.v, .map p5, .map q5] 35)) w.heap.size (.slice (some ⟨g2, 0, none⟩) q cap2) (op.take q) from ((OwnR.kept (HOO7.out _ _) HG8.out (.inr (fun e1 => HR.out.apart g2 e1.symm rfl))).on HB9.out).cut (by have := HM.out; omega))
              have HNB : Hid (∀ b, (Value.slice (some ⟨g2, 0, none⟩) q cap2).ownBlock = some b → b < W1.heap.size) := Lib.hid (fun b h => (HR.out.oo.lt b h).2)
              have HQL := Lib.hid (show (op.take q).length = q by rw [List.length_take]; have := HM.out; omega)
              refine wp_region_held_drew (S := (fun WW => WW.cell? ⟨w5.heap.size, 0, none⟩ = some (.int .i64 (X.f : Int)) ∧ WW.cell? ⟨w5.heap.size, 1, none⟩ = some (.bool X.v) ∧ WW.cell? ⟨w5.heap.size, 2, none⟩ = some (.map p5) ∧ WW.cell? ⟨w5.heap.size, 3, none⟩ = some (.map q5))) (by kernel_rfl) ?_ (fun hHeld => ?_)
              · (try dsimp only); exact ⟨r0, r1, r2, r3⟩
              refine wpAnyH_take (i := 0) (oi := ⟨some 70, _, _, _, _, _⟩) (v := ?_) rfl (by kernel_rfl) (by kernel_rfl) (by kernel_rfl) (fun _ _ _ h => h) (Or.inl ⟨by kernel_rfl, ?_⟩) (by assumption) ?_
              rotate_left
              · (intro ww hSw; (try dsimp only at hSw); go_simp); (try with_reducible rfl)
              (try simp only [Act.put, List.setIfInBounds_toArray, List.set_cons_zero, List.set_cons_succ])
              refine wpAnyH_take (i := 1) (oi := ⟨some 71, _, _, _, _, _⟩) (v := ?_) rfl (by kernel_rfl) (by kernel_rfl) (by kernel_rfl) (fun _ _ _ h => h) (Or.inl ⟨by kernel_rfl, ?_⟩) (by assumption) ?_
              rotate_left
              · (intro ww hSw; (try dsimp only at hSw); go_simp); (try with_reducible rfl)
              (try simp only [Act.put, List.setIfInBounds_toArray, List.set_cons_zero, List.set_cons_succ])
              refine wpAnyH_take (i := 2) (oi := ⟨some 72, _, _, _, _, _⟩) (v := ?_) rfl (by kernel_rfl) (by kernel_rfl) (by kernel_rfl) (fun _ _ _ h => h) (Or.inl ⟨by kernel_rfl, ?_⟩) (by assumption) ?_
              rotate_left
              · (intro ww hSw; (try dsimp only at hSw); go_simp); (try with_reducible rfl)
              (try simp only [Act.put, List.setIfInBounds_toArray, List.set_cons_zero, List.set_cons_succ])
              refine wpAnyH_take (i := 3) (oi := ⟨some 73, _, _, _, _, _⟩) (v := ?_) rfl (by kernel_rfl) (by kernel_rfl) (by kernel_rfl) (fun _ _ _ h => h) (Or.inl ⟨by kernel_rfl, ?_⟩) (by assumption) ?_
              rotate_left
              · (intro ww hSw; (try dsimp only at hSw); go_simp); (try with_reducible rfl)
              (try simp only [Act.put, List.setIfInBounds_toArray, List.set_cons_zero, List.set_cons_succ])
              refine wpAnyH_ready (rs := [4]) (by kernel_rfl) (by simp) ?_
              refine AllReadyH.cons rfl (fun K hK => ?_) AllReadyH.nil
              go_simp
              refine hK.out _ _ ?_ (fun hHeld => ?_)
              · (try dsimp only); exact ⟨(blk_cell HRB9.out 0).trans rfl, (blk_cell HRB9.out 1).trans rfl, (blk_cell HRB9.out 2).trans rfl, (blk_cell HRB9.out 3).trans rfl⟩
              clear hK K
              (try simp only [Act.put, List.setIfInBounds_toArray, List.set_cons_zero, List.set_cons_succ])
              refine wpAnyH_ready (rs := [5]) (by kernel_rfl) (by simp) ?_
              refine AllReadyH.cons rfl (fun K hK => ?_) AllReadyH.nil
              refine wp_append_lies _ (.tmp 72) (.tmp 74) 52 rfl w.heap.size 35 i0 (.agg #[.int .i64 0, .bool false, .map none, .map none]) 4 32 Try.underlying52 hi hz0 hz1 hz2 rfl (by decide) (.slice (some ⟨g2, 0, none⟩) q cap2) q (resCells (op.take q)) rfl (by have h := HOO8.out; unfold OwnR at h; rw [HQL.out] at h; exact h) ⟨w8.heap.size, 0, none⟩ 1 1 [.int .i64 X.f, .bool X.v, .map p5, .map q5] rfl rfl (news4 w8.drew _ _ _ _ _) (by intro u hu; simp at hu; rcases hu with rfl | rfl | rfl | rfl <;> rfl) (by decide) (by unfold maxLen; omega) (by omega) (by show w.heap.size ≤ _; simp; have h2 : w8.drew.heap.size = w8.heap.size := rfl; omega) _ rfl ?_
              intro go co w9 hown9 hgr9 hat9 hlt9
              have HO9 := Lib.hid hown9
              have HG9 := Lib.hid hgr9
              have HT9 := Lib.hid hat9
              have HRC : Hid (Blk w9 w5.heap.size 35 #[.int .i64 (X.f : Int), .bool X.v, .map p5, .map q5]) := Lib.hid (by
                have h1 := HRB9.out
                unfold Blk at h1 ⊢
                rw [HG9.out.block _ (by have h2 : w8.drew.heap.size = w8.heap.size := rfl; simp; omega) (fun e1 => by have := HNB.out _ e1.symm; omega)]; exact h1)
              clear hown9 hgr9 hat9 hlt9 r0 r1 r2 r3
              change K (Act.put _ (some 75) _) _
              refine hK.out _ _ ?_ (fun hHeld => ?_)
              · (try dsimp only); exact ⟨(blk_cell HRC.out 0).trans rfl, (blk_cell HRC.out 1).trans rfl, (blk_cell HRC.out 2).trans rfl, (blk_cell HRC.out 3).trans rfl⟩
              clear hK K
              (try simp only [Act.put, List.setIfInBounds_toArray, List.set_cons_zero, List.set_cons_succ])
              refine wpAnyH_take (i := 6) (oi := ⟨some 5, _, _, _, _, _⟩) (v := ?_) rfl (by kernel_rfl) (by kernel_rfl) (by kernel_rfl) (fun _ _ _ h => h) (Or.inl ⟨by kernel_rfl, ?_⟩) (by assumption) ?_
              rotate_left
              · (intro ww hSw; (try dsimp only at hSw); go_simp); (try with_reducible rfl)
              (try simp only [Act.put, List.setIfInBounds_toArray, List.set_cons_zero, List.set_cons_succ])
              refine wpAnyH_done (by kernel_rfl) ?_ _
              have HFIN := Lib.hid (runW_next (op := op) (q := q) (x := ⟨X, p5, q5⟩) (E' := E) (e' := e) HR.out HR.out.err (HRUN.out) H5.out HP5.out HQ5.out (HB7.out _ _) HO8.out HG8.out HT8.out HL8.out HB9.out HO9.out HQL.out HOO8.out HG9.out rfl HT9.out)
              go_wp2
              go_roundg gg
              case measure => omega
              case rel => exact ⟨k + 1, _, _, _, _, by go_num, rfl, by omega, HFIN⟩
          by_cases h9 : pk = 9
          · have hD1 : D = 1 := by have := HDE.out; rw [nd_of.2.2.2.2.1 h9] at this; omega
            subst h9
            subst hD1
            have e1b : (M : Int) - 1 = (q : Int) := by omega
            have hqL : q < op.length := by rw [HM.out]; omega
            have hcapn : ¬ cap2 = q := by omega
            have HN0 := Lib.hid (show ((op.drop q).map (·.r)).getD 0 noR = op[q].r by
              rw [List.getD_eq_getElem?_getD, List.getElem?_map, List.getElem?_drop, Nat.add_zero, List.getElem?_eq_getElem hqL]; rfl)
            have HAT := Lib.hid (fun (W : World) (hb : Below W1.heap.size W1 W) => OwnR.at_ (HR.out.oo.on hb) (HR.out.so.on (mapsOn_below hb)) hqL)
            generalize op[q].r = r0 at HN0 HAT
            obtain ⟨r0f, r0v, r0s, r0c⟩ := r0
            clear hq
            have hn9 := Lib.hid (show nestR ⟨9, pT, pV, pR, pF, pm, ps⟩ ((op.drop q).map (·.r)) = r0v by unfold nestR; rw [HN0.out]; rfl)
            cases r0v with
            | true =>
              have HSTOP := Lib.hid (HST2.out hn9.out)
              go_wp2_with fail
              refine (HND.out _).mono ?_
              rintro e2' w2 ⟨rfl, hb2⟩
              have HX2 := Lib.hid ((HNEW.out _).on hb2)
              clear hb2 c0 c1 c2 c3 c4 c5 c6
              obtain ⟨c0, c1, c2, c3, c4, c5, c6⟩ := HX.out _ HX2.out
              have hlt2 := HX2.out.2.2
              have HB2 := Lib.hid (HR.out.below.trans (HX2.out.2.1.mono HR.out.below.size))
              go_wp2_with fail
              refine (HRT.out _ (HIN.out _ HB2.out)).mono ?_
              rintro e3 w3 ⟨rfl, hb3⟩
              have HX3 := Lib.hid (HX2.out.on hb3)
              clear hb3 c0 c1 c2 c3 c4 c5 c6 hlt2
              obtain ⟨c0, c1, c2, c3, c4, c5, c6⟩ := HX.out _ HX3.out
              have hlt3 := HX3.out.2.2
              have HB3 := Lib.hid (HR.out.below.trans (HX3.out.2.1.mono HR.out.below.size))
              obtain ⟨pp, qq, d0, d1, d2, d3, hs0, hs1⟩ := HAT.out _ HX3.out.2.1
              dsimp only at d0 d1 d2 d3 hs0 hs1
              have HS0 := Lib.hid hs0
              have HS1 := Lib.hid hs1
              have hg3 : g2 < w3.heap.size := Nat.lt_of_lt_of_le hl5 HX3.out.2.1.size
              clear hs0 hs1
              go_wp2
              refine bodyPost_ret (v := .tuple #[.slice none 0 0, .int .i64 2]) (by simp [results, Try.results13, go_sem]) rfl (res_none HLC.out HSTOP.out HB3.out)
            | false =>
              have HRUN := Lib.hid (HNX2.out hn9.out)
              rw [show scopeR ⟨9, pT, pV, pR, pF, pm, ps⟩ ((op.drop q).map (·.r)) = false from rfl, Bool.or_false] at HRUN
              go_wp2_with fail
              refine (HND.out _).mono ?_
              rintro e2' w2 ⟨rfl, hb2⟩
              have HX2 := Lib.hid ((HNEW.out _).on hb2)
              clear hb2 c0 c1 c2 c3 c4 c5 c6
              obtain ⟨c0, c1, c2, c3, c4, c5, c6⟩ := HX.out _ HX2.out
              have hlt2 := HX2.out.2.2
              have HB2 := Lib.hid (HR.out.below.trans (HX2.out.2.1.mono HR.out.below.size))
              go_wp2_with fail
              refine (HRT.out _ (HIN.out _ HB2.out)).mono ?_
              rintro e3 w3 ⟨rfl, hb3⟩
              have HX3 := Lib.hid (HX2.out.on hb3)
              clear hb3 c0 c1 c2 c3 c4 c5 c6 hlt2
              obtain ⟨c0, c1, c2, c3, c4, c5, c6⟩ := HX.out _ HX3.out
              have hlt3 := HX3.out.2.2
              have HB3 := Lib.hid (HR.out.below.trans (HX3.out.2.1.mono HR.out.below.size))
              obtain ⟨pp, qq, d0, d1, d2, d3, hs0, hs1⟩ := HAT.out _ HX3.out.2.1
              dsimp only at d0 d1 d2 d3 hs0 hs1
              have HS0 := Lib.hid hs0
              have HS1 := Lib.hid hs1
              have hg3 : g2 < w3.heap.size := Nat.lt_of_lt_of_le hl5 HX3.out.2.1.size
              clear hs0 hs1
              go_upto_region 15 with fail
              go_quiet (fail)
              go_wp2_with fail
              refine (HM2.out _ _ _ (HIN.out _ (by first | exact HB3.out | exact drew_below HB3.out _)) (by first | exact HRES.out _ HX3.out.2.1 | exact HRES.out _ (drew_below HX3.out.2.1 _))).mono ?_
              rintro e5 w5 ⟨p5, q5, rfl, hp5, hq5, hb5⟩
              have HP5 := Lib.hid hp5
              have HQ5 := Lib.hid hq5
              have H5 := Lib.hid (show Below W1.heap.size W1 w5 from (by first | exact HX3.out.2.1.trans (hb5.mono HX3.out.2.1.size) | exact ((drew_below HX3.out.2.1 _).trans (hb5.mono (drew_below HX3.out.2.1 _).size))))
              clear hp5 hq5 hb5
              have hz5 := H5.out.size
              have hzb := HR.out.below.size
              have HOA7 := Lib.hid (fun o1 o2 => (show ((w5.alloc o1).alloc o2).ownsRow w.heap.size 35 4 u4 all.length (resCells all) from ((HR.out.oa.on H5.out).alloc o1).alloc o2))
              have HB7 := Lib.hid (fun o1 o2 => (show Below w5.heap.size w5 ((w5.alloc o1).alloc o2) from (box_below w5 o1).alloc (by simp) o2))
              have HBL7 := Lib.hid (fun (o2 : Obj) => blk_alloc (blk_new w5 35 #[.int .i64 (X.f : Int), .bool X.v, .map p5, .map q5]) o2)
              have HVL := Lib.hid (fun b (hb : u4.ownBlock = some b) => (HR.out.oa.lt b hb).2)
              go_upto_region 19 with (at_builtin; go_must (refine wpList_append_lies _ rfl (.tmp 66) (.tmp 68) 52 rfl w.heap.size 35 i0 (.agg #[.int .i64 0, .bool false, .map none, .map none]) 4 32 Try.underlying52 hi hz0 hz1 hz2 rfl (by decide) _ _ _ rfl (HOA7.out _ _) ⟨w5.heap.size + 1, 0, none⟩ 1 1 [.int .i64 X.f, .bool X.v, .map p5, .map q5] rfl rfl (by have h := news4 (w5.alloc (.cells #[.int .i64 (X.f : Int), .bool X.v, .map p5, .map q5] 35)) (.int .i64 (X.f : Int)) (.bool X.v) (.map p5) (.map q5) 35; rw [show (w5.alloc (.cells #[.int .i64 (X.f : Int), .bool X.v, .map p5, .map q5] 35)).heap.size = w5.heap.size + 1 by simp] at h; exact h) (by intro u hu; simp at hu; rcases hu with rfl | rfl | rfl | rfl <;> rfl) (by decide) (by have := HAL.out; unfold maxLen; omega) (by have := HAL.out; omega) (by simp; omega) _ rfl ?_; intro ga ca w8 hown8 hgr8 hat8 hlt8; have HO8 := Lib.hid hown8; have HG8 := Lib.hid hgr8; have HT8 := Lib.hid hat8; have HL8 := Lib.hid hlt8; clear hown8 hgr8 hat8 hlt8))
              have HRB8 : Hid (Blk w8 w5.heap.size 35 #[.int .i64 (X.f : Int), .bool X.v, .map p5, .map q5]) := Lib.hid (by
                have h1 := HBL7.out (.cells #[.int .i64 (X.f : Int), .bool X.v, .map p5, .map q5] 35)
                unfold Blk at h1 ⊢
                rw [HG8.out.block _ (by simp; omega) (fun e1 => by have := HVL.out _ e1.symm; omega)]; exact h1)
              have hz8 : w5.heap.size + 1 + 1 ≤ w8.heap.size := by have := HG8.out.size; simp at this; omega
              have r0 : w8.cell? ⟨w5.heap.size, 0, none⟩ = some (.int .i64 (X.f : Int)) := (blk_cell HRB8.out 0).trans rfl
              have r1 : w8.cell? ⟨w5.heap.size, 1, none⟩ = some (.bool X.v) := (blk_cell HRB8.out 1).trans rfl
              have r2 : w8.cell? ⟨w5.heap.size, 2, none⟩ = some (.map p5) := (blk_cell HRB8.out 2).trans rfl
              have r3 : w8.cell? ⟨w5.heap.size, 3, none⟩ = some (.map q5) := (blk_cell HRB8.out 3).trans rfl
              have HRB9 := Lib.hid (blk_alloc (show Blk w8.drew w5.heap.size 35 #[.int .i64 (X.f : Int), .bool X.v, .map p5, .map q5] from HRB8.out) (.cells #[.int .i64 (X.f : Int), .bool X.v, .map p5, .map q5] 35))
              have HB9 := Lib.hid (show Below w8.heap.size w8 (w8.drew.alloc (.cells #[.int .i64 (X.f : Int), .bool X.v, .map p5, .map q5] 35)) from (Below.refl _ _).drew.trans (box_below w8.drew _))
              have HOO7 := Lib.hid (fun o1 o2 => (HR.out.oo.on (H5.out.trans ((HB7.out o1 o2).mono H5.out.size))))
              have HOO8 := Lib.hid (show OwnR (w8.drew.alloc (.cells #[.int .i64 (X.f : Int), .bool X.v, .map p5, .map q5] 35)) w.heap.size (.slice (some ⟨g2, 0, none⟩) q cap2) (op.take q) from ((OwnR.kept (HOO7.out _ _) HG8.out (.inr (fun e1 => HR.out.apart g2 e1.symm rfl))).on HB9.out).cut (by have := HM.out; omega))
              have HNB : Hid (∀ b, (Value.slice (some ⟨g2, 0, none⟩) q cap2).ownBlock = some b → b < W1.heap.size) := Lib.hid (fun b h => (HR.out.oo.lt b h).2)
              have HQL := Lib.hid (show (op.take q).length = q by rw [List.length_take]; have := HM.out; omega)
              refine wp_region_held_drew (S := (fun WW => WW.cell? ⟨w5.heap.size, 0, none⟩ = some (.int .i64 (X.f : Int)) ∧ WW.cell? ⟨w5.heap.size, 1, none⟩ = some (.bool X.v) ∧ WW.cell? ⟨w5.heap.size, 2, none⟩ = some (.map p5) ∧ WW.cell? ⟨w5.heap.size, 3, none⟩ = some (.map q5))) (by kernel_rfl) ?_ (fun hHeld => ?_)
              · (try dsimp only); exact ⟨r0, r1, r2, r3⟩
              refine wpAnyH_take (i := 0) (oi := ⟨some 70, _, _, _, _, _⟩) (v := ?_) rfl (by kernel_rfl) (by kernel_rfl) (by kernel_rfl) (fun _ _ _ h => h) (Or.inl ⟨by kernel_rfl, ?_⟩) (by assumption) ?_
              rotate_left
              · (intro ww hSw; (try dsimp only at hSw); go_simp); (try with_reducible rfl)
              (try simp only [Act.put, List.setIfInBounds_toArray, List.set_cons_zero, List.set_cons_succ])
              refine wpAnyH_take (i := 1) (oi := ⟨some 71, _, _, _, _, _⟩) (v := ?_) rfl (by kernel_rfl) (by kernel_rfl) (by kernel_rfl) (fun _ _ _ h => h) (Or.inl ⟨by kernel_rfl, ?_⟩) (by assumption) ?_
              rotate_left
              · (intro ww hSw; (try dsimp only at hSw); go_simp); (try with_reducible rfl)
              (try simp only [Act.put, List.setIfInBounds_toArray, List.set_cons_zero, List.set_cons_succ])
              refine wpAnyH_take (i := 2) (oi := ⟨some 72, _, _, _, _, _⟩) (v := ?_) rfl (by kernel_rfl) (by kernel_rfl) (by kernel_rfl) (fun _ _ _ h => h) (Or.inl ⟨by kernel_rfl, ?_⟩) (by assumption) ?_
              rotate_left
              · (intro ww hSw; (try dsimp only at hSw); go_simp); (try with_reducible rfl)
              (try simp only [Act.put, List.setIfInBounds_toArray, List.set_cons_zero, List.set_cons_succ])
              refine wpAnyH_take (i := 3) (oi := ⟨some 73, _, _, _, _, _⟩) (v := ?_) rfl (by kernel_rfl) (by kernel_rfl) (by kernel_rfl) (fun _ _ _ h => h) (Or.inl ⟨by kernel_rfl, ?_⟩) (by assumption) ?_
              rotate_left
              · (intro ww hSw; (try dsimp only at hSw); go_simp); (try with_reducible rfl)
              (try simp only [Act.put, List.setIfInBounds_toArray, List.set_cons_zero, List.set_cons_succ])
              refine wpAnyH_ready (rs := [4]) (by kernel_rfl) (by simp) ?_
              refine AllReadyH.cons rfl (fun K hK => ?_) AllReadyH.nil
              go_simp
              refine hK.out _ _ ?_ (fun hHeld => ?_)
              · (try dsimp only); exact ⟨(blk_cell HRB9.out 0).trans rfl, (blk_cell HRB9.out 1).trans rfl, (blk_cell HRB9.out 2).trans rfl, (blk_cell HRB9.out 3).trans rfl⟩
              clear hK K
              (try simp only [Act.put, List.setIfInBounds_toArray, List.set_cons_zero, List.set_cons_succ])
              refine wpAnyH_ready (rs := [5]) (by kernel_rfl) (by simp) ?_
              refine AllReadyH.cons rfl (fun K hK => ?_) AllReadyH.nil
              refine wp_append_lies _ (.tmp 72) (.tmp 74) 52 rfl w.heap.size 35 i0 (.agg #[.int .i64 0, .bool false, .map none, .map none]) 4 32 Try.underlying52 hi hz0 hz1 hz2 rfl (by decide) (.slice (some ⟨g2, 0, none⟩) q cap2) q (resCells (op.take q)) rfl (by have h := HOO8.out; unfold OwnR at h; rw [HQL.out] at h; exact h) ⟨w8.heap.size, 0, none⟩ 1 1 [.int .i64 X.f, .bool X.v, .map p5, .map q5] rfl rfl (news4 w8.drew _ _ _ _ _) (by intro u hu; simp at hu; rcases hu with rfl | rfl | rfl | rfl <;> rfl) (by decide) (by unfold maxLen; omega) (by omega) (by show w.heap.size ≤ _; simp; have h2 : w8.drew.heap.size = w8.heap.size := rfl; omega) _ rfl ?_
              intro go co w9 hown9 hgr9 hat9 hlt9
              have HO9 := Lib.hid hown9
              have HG9 := Lib.hid hgr9
              have HT9 := Lib.hid hat9
              have HRC : Hid (Blk w9 w5.heap.size 35 #[.int .i64 (X.f : Int), .bool X.v, .map p5, .map q5]) := Lib.hid (by
                have h1 := HRB9.out
                unfold Blk at h1 ⊢
                rw [HG9.out.block _ (by have h2 : w8.drew.heap.size = w8.heap.size := rfl; simp; omega) (fun e1 => by have := HNB.out _ e1.symm; omega)]; exact h1)
              clear hown9 hgr9 hat9 hlt9 r0 r1 r2 r3
              change K (Act.put _ (some 75) _) _
              refine hK.out _ _ ?_ (fun hHeld => ?_)
              · (try dsimp only); exact ⟨(blk_cell HRC.out 0).trans rfl, (blk_cell HRC.out 1).trans rfl, (blk_cell HRC.out 2).trans rfl, (blk_cell HRC.out 3).trans rfl⟩
              clear hK K
              (try simp only [Act.put, List.setIfInBounds_toArray, List.set_cons_zero, List.set_cons_succ])
              refine wpAnyH_take (i := 6) (oi := ⟨some 5, _, _, _, _, _⟩) (v := ?_) rfl (by kernel_rfl) (by kernel_rfl) (by kernel_rfl) (fun _ _ _ h => h) (Or.inl ⟨by kernel_rfl, ?_⟩) (by assumption) ?_
              rotate_left
              · (intro ww hSw; (try dsimp only at hSw); go_simp); (try with_reducible rfl)
              (try simp only [Act.put, List.setIfInBounds_toArray, List.set_cons_zero, List.set_cons_succ])
              refine wpAnyH_done (by kernel_rfl) ?_ _
              have HFIN := Lib.hid (runW_next (op := op) (q := q) (x := ⟨X, p5, q5⟩) (E' := E) (e' := e) HR.out HR.out.err (HRUN.out) H5.out HP5.out HQ5.out (HB7.out _ _) HO8.out HG8.out HT8.out HL8.out HB9.out HO9.out HQL.out HOO8.out HG9.out rfl HT9.out)
              go_wp2
              go_roundg gg
              case measure => omega
              case rel => exact ⟨k + 1, _, _, _, _, by go_num, rfl, by omega, HFIN⟩
          have g8 : (pk == 8) = false := beq_eq_false_iff_ne.2 h8
          have g9 : (pk == 9) = false := beq_eq_false_iff_ne.2 h9
          have HRUN := Lib.hid (HNX2.out (by unfold nestR; rw [show (pk == 9) = false from g9]; rfl))
          rw [show scopeR ⟨pk, pT, pV, pR, pF, pm, ps⟩ ((op.drop q).map (·.r)) = false by unfold scopeR; rw [show (pk == 8) = false from g8]; rfl, Bool.or_false] at HRUN
          clear h8 h9 HNX2 HST2
          by_cases hcap : cap2 = q
          · have hD0 : D = 0 := by omega
            have hcap2 := hcap.symm
            clear hcap
            subst hcap2
            subst hD0
            have hqM : q = M := by omega
            subst hqM
            obtain rfl : cq = 0 := by omega
            clear hq hcq e1 e3 e4
            go_wp2_with fail
            refine (HND.out _).mono ?_
            rintro e2' w2 ⟨rfl, hb2⟩
            have HX2 := Lib.hid ((HNEW.out _).on hb2)
            clear hb2 c0 c1 c2 c3 c4 c5 c6
            obtain ⟨c0, c1, c2, c3, c4, c5, c6⟩ := HX.out _ HX2.out
            have hlt2 := HX2.out.2.2
            have HB2 := Lib.hid (HR.out.below.trans (HX2.out.2.1.mono HR.out.below.size))
            go_wp2_with fail
            refine (HRT.out _ (HIN.out _ HB2.out)).mono ?_
            rintro e3 w3 ⟨rfl, hb3⟩
            have HX3 := Lib.hid (HX2.out.on hb3)
            clear hb3 c0 c1 c2 c3 c4 c5 c6 hlt2
            obtain ⟨c0, c1, c2, c3, c4, c5, c6⟩ := HX.out _ HX3.out
            have hlt3 := HX3.out.2.2
            have HB3 := Lib.hid (HR.out.below.trans (HX3.out.2.1.mono HR.out.below.size))
            go_upto_region 15 with fail
            go_quiet (fail)
            go_wp2_with fail
            refine (HM2.out _ _ _ (HIN.out _ (by first | exact HB3.out | exact drew_below HB3.out _)) (⟨HNL.out, Nat.zero_le _, by unfold maxLen; omega, fun h => absurd h (Nat.lt_irrefl _)⟩)).mono ?_
            rintro e5 w5 ⟨p5, q5, rfl, hp5, hq5, hb5⟩
            have HP5 := Lib.hid hp5
            have HQ5 := Lib.hid hq5
            have H5 := Lib.hid (show Below W1.heap.size W1 w5 from (by first | exact HX3.out.2.1.trans (hb5.mono HX3.out.2.1.size) | exact ((drew_below HX3.out.2.1 _).trans (hb5.mono (drew_below HX3.out.2.1 _).size))))
            clear hp5 hq5 hb5
            have hz5 := H5.out.size
            have hzb := HR.out.below.size
            have HOA7 := Lib.hid (fun o1 o2 => (show ((w5.alloc o1).alloc o2).ownsRow w.heap.size 35 4 u4 all.length (resCells all) from ((HR.out.oa.on H5.out).alloc o1).alloc o2))
            have HB7 := Lib.hid (fun o1 o2 => (show Below w5.heap.size w5 ((w5.alloc o1).alloc o2) from (box_below w5 o1).alloc (by simp) o2))
            have HBL7 := Lib.hid (fun (o2 : Obj) => blk_alloc (blk_new w5 35 #[.int .i64 (X.f : Int), .bool X.v, .map p5, .map q5]) o2)
            have HVL := Lib.hid (fun b (hb : u4.ownBlock = some b) => (HR.out.oa.lt b hb).2)
            go_upto_region 19 with (at_builtin; go_must (refine wpList_append_lies _ rfl (.tmp 66) (.tmp 68) 52 rfl w.heap.size 35 i0 (.agg #[.int .i64 0, .bool false, .map none, .map none]) 4 32 Try.underlying52 hi hz0 hz1 hz2 rfl (by decide) _ _ _ rfl (HOA7.out _ _) ⟨w5.heap.size + 1, 0, none⟩ 1 1 [.int .i64 X.f, .bool X.v, .map p5, .map q5] rfl rfl (by have h := news4 (w5.alloc (.cells #[.int .i64 (X.f : Int), .bool X.v, .map p5, .map q5] 35)) (.int .i64 (X.f : Int)) (.bool X.v) (.map p5) (.map q5) 35; rw [show (w5.alloc (.cells #[.int .i64 (X.f : Int), .bool X.v, .map p5, .map q5] 35)).heap.size = w5.heap.size + 1 by simp] at h; exact h) (by intro u hu; simp at hu; rcases hu with rfl | rfl | rfl | rfl <;> rfl) (by decide) (by have := HAL.out; unfold maxLen; omega) (by have := HAL.out; omega) (by simp; omega) _ rfl ?_; intro ga ca w8 hown8 hgr8 hat8 hlt8; have HO8 := Lib.hid hown8; have HG8 := Lib.hid hgr8; have HT8 := Lib.hid hat8; have HL8 := Lib.hid hlt8; clear hown8 hgr8 hat8 hlt8))
            have HRB8 : Hid (Blk w8 w5.heap.size 35 #[.int .i64 (X.f : Int), .bool X.v, .map p5, .map q5]) := Lib.hid (by
              have h1 := HBL7.out (.cells #[.int .i64 (X.f : Int), .bool X.v, .map p5, .map q5] 35)
              unfold Blk at h1 ⊢
              rw [HG8.out.block _ (by simp; omega) (fun e1 => by have := HVL.out _ e1.symm; omega)]; exact h1)
            have hz8 : w5.heap.size + 1 + 1 ≤ w8.heap.size := by have := HG8.out.size; simp at this; omega
            have r0 : w8.cell? ⟨w5.heap.size, 0, none⟩ = some (.int .i64 (X.f : Int)) := (blk_cell HRB8.out 0).trans rfl
            have r1 : w8.cell? ⟨w5.heap.size, 1, none⟩ = some (.bool X.v) := (blk_cell HRB8.out 1).trans rfl
            have r2 : w8.cell? ⟨w5.heap.size, 2, none⟩ = some (.map p5) := (blk_cell HRB8.out 2).trans rfl
            have r3 : w8.cell? ⟨w5.heap.size, 3, none⟩ = some (.map q5) := (blk_cell HRB8.out 3).trans rfl
            have HRB9 := Lib.hid (blk_alloc (show Blk w8.drew w5.heap.size 35 #[.int .i64 (X.f : Int), .bool X.v, .map p5, .map q5] from HRB8.out) (.cells #[.int .i64 (X.f : Int), .bool X.v, .map p5, .map q5] 35))
            have HB9 := Lib.hid (show Below w8.heap.size w8 (w8.drew.alloc (.cells #[.int .i64 (X.f : Int), .bool X.v, .map p5, .map q5] 35)) from (Below.refl _ _).drew.trans (box_below w8.drew _))
            have HOO7 := Lib.hid (fun o1 o2 => (HR.out.oo.on (H5.out.trans ((HB7.out o1 o2).mono H5.out.size))))
            have HOO8 := Lib.hid (show OwnR (w8.drew.alloc (.cells #[.int .i64 (X.f : Int), .bool X.v, .map p5, .map q5] 35)) w.heap.size (.slice (some ⟨g2, 0, none⟩) q q) (op.take q) from ((OwnR.kept (HOO7.out _ _) HG8.out (.inr (fun e1 => HR.out.apart g2 e1.symm rfl))).on HB9.out).cut (by have := HM.out; omega))
            have HNB : Hid (∀ b, (Value.slice (some ⟨g2, 0, none⟩) q q).ownBlock = some b → b < W1.heap.size) := Lib.hid (fun b h => (HR.out.oo.lt b h).2)
            have HQL := Lib.hid (show (op.take q).length = q by rw [List.length_take]; have := HM.out; omega)
            refine wp_region_held_drew (S := (fun WW => WW.cell? ⟨w5.heap.size, 0, none⟩ = some (.int .i64 (X.f : Int)) ∧ WW.cell? ⟨w5.heap.size, 1, none⟩ = some (.bool X.v) ∧ WW.cell? ⟨w5.heap.size, 2, none⟩ = some (.map p5) ∧ WW.cell? ⟨w5.heap.size, 3, none⟩ = some (.map q5))) (by kernel_rfl) ?_ (fun hHeld => ?_)
            · (try dsimp only); exact ⟨r0, r1, r2, r3⟩
            refine wpAnyH_take (i := 0) (oi := ⟨some 70, _, _, _, _, _⟩) (v := ?_) rfl (by kernel_rfl) (by kernel_rfl) (by kernel_rfl) (fun _ _ _ h => h) (Or.inl ⟨by kernel_rfl, ?_⟩) (by assumption) ?_
            rotate_left
            · (intro ww hSw; (try dsimp only at hSw); go_simp); (try with_reducible rfl)
            (try simp only [Act.put, List.setIfInBounds_toArray, List.set_cons_zero, List.set_cons_succ])
            refine wpAnyH_take (i := 1) (oi := ⟨some 71, _, _, _, _, _⟩) (v := ?_) rfl (by kernel_rfl) (by kernel_rfl) (by kernel_rfl) (fun _ _ _ h => h) (Or.inl ⟨by kernel_rfl, ?_⟩) (by assumption) ?_
            rotate_left
            · (intro ww hSw; (try dsimp only at hSw); go_simp); (try with_reducible rfl)
            (try simp only [Act.put, List.setIfInBounds_toArray, List.set_cons_zero, List.set_cons_succ])
            refine wpAnyH_take (i := 2) (oi := ⟨some 72, _, _, _, _, _⟩) (v := ?_) rfl (by kernel_rfl) (by kernel_rfl) (by kernel_rfl) (fun _ _ _ h => h) (Or.inl ⟨by kernel_rfl, ?_⟩) (by assumption) ?_
            rotate_left
            · (intro ww hSw; (try dsimp only at hSw); go_simp); (try with_reducible rfl)
            (try simp only [Act.put, List.setIfInBounds_toArray, List.set_cons_zero, List.set_cons_succ])
            refine wpAnyH_take (i := 3) (oi := ⟨some 73, _, _, _, _, _⟩) (v := ?_) rfl (by kernel_rfl) (by kernel_rfl) (by kernel_rfl) (fun _ _ _ h => h) (Or.inl ⟨by kernel_rfl, ?_⟩) (by assumption) ?_
            rotate_left
            · (intro ww hSw; (try dsimp only at hSw); go_simp); (try with_reducible rfl)
            (try simp only [Act.put, List.setIfInBounds_toArray, List.set_cons_zero, List.set_cons_succ])
            refine wpAnyH_ready (rs := [4]) (by kernel_rfl) (by simp) ?_
            refine AllReadyH.cons rfl (fun K hK => ?_) AllReadyH.nil
            go_simp
            refine hK.out _ _ ?_ (fun hHeld => ?_)
            · (try dsimp only); exact ⟨(blk_cell HRB9.out 0).trans rfl, (blk_cell HRB9.out 1).trans rfl, (blk_cell HRB9.out 2).trans rfl, (blk_cell HRB9.out 3).trans rfl⟩
            clear hK K
            (try simp only [Act.put, List.setIfInBounds_toArray, List.set_cons_zero, List.set_cons_succ])
            refine wpAnyH_ready (rs := [5]) (by kernel_rfl) (by simp) ?_
            refine AllReadyH.cons rfl (fun K hK => ?_) AllReadyH.nil
            refine wp_append_lies _ (.tmp 72) (.tmp 74) 52 rfl w.heap.size 35 i0 (.agg #[.int .i64 0, .bool false, .map none, .map none]) 4 32 Try.underlying52 hi hz0 hz1 hz2 rfl (by decide) (.slice (some ⟨g2, 0, none⟩) q q) q (resCells (op.take q)) rfl (by have h := HOO8.out; unfold OwnR at h; rw [HQL.out] at h; exact h) ⟨w8.heap.size, 0, none⟩ 1 1 [.int .i64 X.f, .bool X.v, .map p5, .map q5] rfl rfl (news4 w8.drew _ _ _ _ _) (by intro u hu; simp at hu; rcases hu with rfl | rfl | rfl | rfl <;> rfl) (by decide) (by unfold maxLen; omega) (by omega) (by show w.heap.size ≤ _; simp; have h2 : w8.drew.heap.size = w8.heap.size := rfl; omega) _ rfl ?_
            intro go co w9 hown9 hgr9 hat9 hlt9
            have HO9 := Lib.hid hown9
            have HG9 := Lib.hid hgr9
            have HT9 := Lib.hid hat9
            have HRC : Hid (Blk w9 w5.heap.size 35 #[.int .i64 (X.f : Int), .bool X.v, .map p5, .map q5]) := Lib.hid (by
              have h1 := HRB9.out
              unfold Blk at h1 ⊢
              rw [HG9.out.block _ (by have h2 : w8.drew.heap.size = w8.heap.size := rfl; simp; omega) (fun e1 => by have := HNB.out _ e1.symm; omega)]; exact h1)
            clear hown9 hgr9 hat9 hlt9 r0 r1 r2 r3
            change K (Act.put _ (some 75) _) _
            refine hK.out _ _ ?_ (fun hHeld => ?_)
            · (try dsimp only); exact ⟨(blk_cell HRC.out 0).trans rfl, (blk_cell HRC.out 1).trans rfl, (blk_cell HRC.out 2).trans rfl, (blk_cell HRC.out 3).trans rfl⟩
            clear hK K
            (try simp only [Act.put, List.setIfInBounds_toArray, List.set_cons_zero, List.set_cons_succ])
            refine wpAnyH_take (i := 6) (oi := ⟨some 5, _, _, _, _, _⟩) (v := ?_) rfl (by kernel_rfl) (by kernel_rfl) (by kernel_rfl) (fun _ _ _ h => h) (Or.inl ⟨by kernel_rfl, ?_⟩) (by assumption) ?_
            rotate_left
            · (intro ww hSw; (try dsimp only at hSw); go_simp); (try with_reducible rfl)
            (try simp only [Act.put, List.setIfInBounds_toArray, List.set_cons_zero, List.set_cons_succ])
            refine wpAnyH_done (by kernel_rfl) ?_ _
            have HFIN := Lib.hid (runW_next (op := op) (q := q) (x := ⟨X, p5, q5⟩) (E' := E) (e' := e) HR.out HR.out.err (HRUN.out) H5.out HP5.out HQ5.out (HB7.out _ _) HO8.out HG8.out HT8.out HL8.out HB9.out HO9.out HQL.out HOO8.out HG9.out rfl HT9.out)
            go_wp2
            go_roundg gg
            case measure => omega
            case rel => exact ⟨k + 1, _, _, _, _, by go_num, rfl, by omega, HFIN⟩
          · go_wp2_with fail
            refine (HND.out _).mono ?_
            rintro e2' w2 ⟨rfl, hb2⟩
            have HX2 := Lib.hid ((HNEW.out _).on hb2)
            clear hb2 c0 c1 c2 c3 c4 c5 c6
            obtain ⟨c0, c1, c2, c3, c4, c5, c6⟩ := HX.out _ HX2.out
            have hlt2 := HX2.out.2.2
            have HB2 := Lib.hid (HR.out.below.trans (HX2.out.2.1.mono HR.out.below.size))
            go_wp2_with fail
            refine (HRT.out _ (HIN.out _ HB2.out)).mono ?_
            rintro e3 w3 ⟨rfl, hb3⟩
            have HX3 := Lib.hid (HX2.out.on hb3)
            clear hb3 c0 c1 c2 c3 c4 c5 c6 hlt2
            obtain ⟨c0, c1, c2, c3, c4, c5, c6⟩ := HX.out _ HX3.out
            have hlt3 := HX3.out.2.2
            have HB3 := Lib.hid (HR.out.below.trans (HX3.out.2.1.mono HR.out.below.size))
            go_upto_region 15 with fail
            go_quiet (fail)
            go_wp2_with fail
            refine (HM2.out _ _ _ (HIN.out _ (by first | exact HB3.out | exact drew_below HB3.out _)) (by first | exact HRES.out _ HX3.out.2.1 | exact HRES.out _ (drew_below HX3.out.2.1 _))).mono ?_
            rintro e5 w5 ⟨p5, q5, rfl, hp5, hq5, hb5⟩
            have HP5 := Lib.hid hp5
            have HQ5 := Lib.hid hq5
            have H5 := Lib.hid (show Below W1.heap.size W1 w5 from (by first | exact HX3.out.2.1.trans (hb5.mono HX3.out.2.1.size) | exact ((drew_below HX3.out.2.1 _).trans (hb5.mono (drew_below HX3.out.2.1 _).size))))
            clear hp5 hq5 hb5
            have hz5 := H5.out.size
            have hzb := HR.out.below.size
            have HOA7 := Lib.hid (fun o1 o2 => (show ((w5.alloc o1).alloc o2).ownsRow w.heap.size 35 4 u4 all.length (resCells all) from ((HR.out.oa.on H5.out).alloc o1).alloc o2))
            have HB7 := Lib.hid (fun o1 o2 => (show Below w5.heap.size w5 ((w5.alloc o1).alloc o2) from (box_below w5 o1).alloc (by simp) o2))
            have HBL7 := Lib.hid (fun (o2 : Obj) => blk_alloc (blk_new w5 35 #[.int .i64 (X.f : Int), .bool X.v, .map p5, .map q5]) o2)
            have HVL := Lib.hid (fun b (hb : u4.ownBlock = some b) => (HR.out.oa.lt b hb).2)
            go_upto_region 19 with (at_builtin; go_must (refine wpList_append_lies _ rfl (.tmp 66) (.tmp 68) 52 rfl w.heap.size 35 i0 (.agg #[.int .i64 0, .bool false, .map none, .map none]) 4 32 Try.underlying52 hi hz0 hz1 hz2 rfl (by decide) _ _ _ rfl (HOA7.out _ _) ⟨w5.heap.size + 1, 0, none⟩ 1 1 [.int .i64 X.f, .bool X.v, .map p5, .map q5] rfl rfl (by have h := news4 (w5.alloc (.cells #[.int .i64 (X.f : Int), .bool X.v, .map p5, .map q5] 35)) (.int .i64 (X.f : Int)) (.bool X.v) (.map p5) (.map q5) 35; rw [show (w5.alloc (.cells #[.int .i64 (X.f : Int), .bool X.v, .map p5, .map q5] 35)).heap.size = w5.heap.size + 1 by simp] at h; exact h) (by intro u hu; simp at hu; rcases hu with rfl | rfl | rfl | rfl <;> rfl) (by decide) (by have := HAL.out; unfold maxLen; omega) (by have := HAL.out; omega) (by simp; omega) _ rfl ?_; intro ga ca w8 hown8 hgr8 hat8 hlt8; have HO8 := Lib.hid hown8; have HG8 := Lib.hid hgr8; have HT8 := Lib.hid hat8; have HL8 := Lib.hid hlt8; clear hown8 hgr8 hat8 hlt8))
            have HRB8 : Hid (Blk w8 w5.heap.size 35 #[.int .i64 (X.f : Int), .bool X.v, .map p5, .map q5]) := Lib.hid (by
              have h1 := HBL7.out (.cells #[.int .i64 (X.f : Int), .bool X.v, .map p5, .map q5] 35)
              unfold Blk at h1 ⊢
              rw [HG8.out.block _ (by simp; omega) (fun e1 => by have := HVL.out _ e1.symm; omega)]; exact h1)
            have hz8 : w5.heap.size + 1 + 1 ≤ w8.heap.size := by have := HG8.out.size; simp at this; omega
            have r0 : w8.cell? ⟨w5.heap.size, 0, none⟩ = some (.int .i64 (X.f : Int)) := (blk_cell HRB8.out 0).trans rfl
            have r1 : w8.cell? ⟨w5.heap.size, 1, none⟩ = some (.bool X.v) := (blk_cell HRB8.out 1).trans rfl
            have r2 : w8.cell? ⟨w5.heap.size, 2, none⟩ = some (.map p5) := (blk_cell HRB8.out 2).trans rfl
            have r3 : w8.cell? ⟨w5.heap.size, 3, none⟩ = some (.map q5) := (blk_cell HRB8.out 3).trans rfl
            have HRB9 := Lib.hid (blk_alloc (show Blk w8.drew w5.heap.size 35 #[.int .i64 (X.f : Int), .bool X.v, .map p5, .map q5] from HRB8.out) (.cells #[.int .i64 (X.f : Int), .bool X.v, .map p5, .map q5] 35))
            have HB9 := Lib.hid (show Below w8.heap.size w8 (w8.drew.alloc (.cells #[.int .i64 (X.f : Int), .bool X.v, .map p5, .map q5] 35)) from (Below.refl _ _).drew.trans (box_below w8.drew _))
            have HOO7 := Lib.hid (fun o1 o2 => (HR.out.oo.on (H5.out.trans ((HB7.out o1 o2).mono H5.out.size))))
            have HOO8 := Lib.hid (show OwnR (w8.drew.alloc (.cells #[.int .i64 (X.f : Int), .bool X.v, .map p5, .map q5] 35)) w.heap.size (.slice (some ⟨g2, 0, none⟩) q cap2) (op.take q) from ((OwnR.kept (HOO7.out _ _) HG8.out (.inr (fun e1 => HR.out.apart g2 e1.symm rfl))).on HB9.out).cut (by have := HM.out; omega))
            have HNB : Hid (∀ b, (Value.slice (some ⟨g2, 0, none⟩) q cap2).ownBlock = some b → b < W1.heap.size) := Lib.hid (fun b h => (HR.out.oo.lt b h).2)
            have HQL := Lib.hid (show (op.take q).length = q by rw [List.length_take]; have := HM.out; omega)
            refine wp_region_held_drew (S := (fun WW => WW.cell? ⟨w5.heap.size, 0, none⟩ = some (.int .i64 (X.f : Int)) ∧ WW.cell? ⟨w5.heap.size, 1, none⟩ = some (.bool X.v) ∧ WW.cell? ⟨w5.heap.size, 2, none⟩ = some (.map p5) ∧ WW.cell? ⟨w5.heap.size, 3, none⟩ = some (.map q5))) (by kernel_rfl) ?_ (fun hHeld => ?_)
            · (try dsimp only); exact ⟨r0, r1, r2, r3⟩
            refine wpAnyH_take (i := 0) (oi := ⟨some 70, _, _, _, _, _⟩) (v := ?_) rfl (by kernel_rfl) (by kernel_rfl) (by kernel_rfl) (fun _ _ _ h => h) (Or.inl ⟨by kernel_rfl, ?_⟩) (by assumption) ?_
            rotate_left
            · (intro ww hSw; (try dsimp only at hSw); go_simp); (try with_reducible rfl)
            (try simp only [Act.put, List.setIfInBounds_toArray, List.set_cons_zero, List.set_cons_succ])
            refine wpAnyH_take (i := 1) (oi := ⟨some 71, _, _, _, _, _⟩) (v := ?_) rfl (by kernel_rfl) (by kernel_rfl) (by kernel_rfl) (fun _ _ _ h => h) (Or.inl ⟨by kernel_rfl, ?_⟩) (by assumption) ?_
            rotate_left
            · (intro ww hSw; (try dsimp only at hSw); go_simp); (try with_reducible rfl)
            (try simp only [Act.put, List.setIfInBounds_toArray, List.set_cons_zero, List.set_cons_succ])
            refine wpAnyH_take (i := 2) (oi := ⟨some 72, _, _, _, _, _⟩) (v := ?_) rfl (by kernel_rfl) (by kernel_rfl) (by kernel_rfl) (fun _ _ _ h => h) (Or.inl ⟨by kernel_rfl, ?_⟩) (by assumption) ?_
            rotate_left
            · (intro ww hSw; (try dsimp only at hSw); go_simp); (try with_reducible rfl)
            (try simp only [Act.put, List.setIfInBounds_toArray, List.set_cons_zero, List.set_cons_succ])
            refine wpAnyH_take (i := 3) (oi := ⟨some 73, _, _, _, _, _⟩) (v := ?_) rfl (by kernel_rfl) (by kernel_rfl) (by kernel_rfl) (fun _ _ _ h => h) (Or.inl ⟨by kernel_rfl, ?_⟩) (by assumption) ?_
            rotate_left
            · (intro ww hSw; (try dsimp only at hSw); go_simp); (try with_reducible rfl)
            (try simp only [Act.put, List.setIfInBounds_toArray, List.set_cons_zero, List.set_cons_succ])
            refine wpAnyH_ready (rs := [4]) (by kernel_rfl) (by simp) ?_
            refine AllReadyH.cons rfl (fun K hK => ?_) AllReadyH.nil
            go_simp
            refine hK.out _ _ ?_ (fun hHeld => ?_)
            · (try dsimp only); exact ⟨(blk_cell HRB9.out 0).trans rfl, (blk_cell HRB9.out 1).trans rfl, (blk_cell HRB9.out 2).trans rfl, (blk_cell HRB9.out 3).trans rfl⟩
            clear hK K
            (try simp only [Act.put, List.setIfInBounds_toArray, List.set_cons_zero, List.set_cons_succ])
            refine wpAnyH_ready (rs := [5]) (by kernel_rfl) (by simp) ?_
            refine AllReadyH.cons rfl (fun K hK => ?_) AllReadyH.nil
            refine wp_append_lies _ (.tmp 72) (.tmp 74) 52 rfl w.heap.size 35 i0 (.agg #[.int .i64 0, .bool false, .map none, .map none]) 4 32 Try.underlying52 hi hz0 hz1 hz2 rfl (by decide) (.slice (some ⟨g2, 0, none⟩) q cap2) q (resCells (op.take q)) rfl (by have h := HOO8.out; unfold OwnR at h; rw [HQL.out] at h; exact h) ⟨w8.heap.size, 0, none⟩ 1 1 [.int .i64 X.f, .bool X.v, .map p5, .map q5] rfl rfl (news4 w8.drew _ _ _ _ _) (by intro u hu; simp at hu; rcases hu with rfl | rfl | rfl | rfl <;> rfl) (by decide) (by unfold maxLen; omega) (by omega) (by show w.heap.size ≤ _; simp; have h2 : w8.drew.heap.size = w8.heap.size := rfl; omega) _ rfl ?_
            intro go co w9 hown9 hgr9 hat9 hlt9
            have HO9 := Lib.hid hown9
            have HG9 := Lib.hid hgr9
            have HT9 := Lib.hid hat9
            have HRC : Hid (Blk w9 w5.heap.size 35 #[.int .i64 (X.f : Int), .bool X.v, .map p5, .map q5]) := Lib.hid (by
              have h1 := HRB9.out
              unfold Blk at h1 ⊢
              rw [HG9.out.block _ (by have h2 : w8.drew.heap.size = w8.heap.size := rfl; simp; omega) (fun e1 => by have := HNB.out _ e1.symm; omega)]; exact h1)
            clear hown9 hgr9 hat9 hlt9 r0 r1 r2 r3
            change K (Act.put _ (some 75) _) _
            refine hK.out _ _ ?_ (fun hHeld => ?_)
            · (try dsimp only); exact ⟨(blk_cell HRC.out 0).trans rfl, (blk_cell HRC.out 1).trans rfl, (blk_cell HRC.out 2).trans rfl, (blk_cell HRC.out 3).trans rfl⟩
            clear hK K
            (try simp only [Act.put, List.setIfInBounds_toArray, List.set_cons_zero, List.set_cons_succ])
            refine wpAnyH_take (i := 6) (oi := ⟨some 5, _, _, _, _, _⟩) (v := ?_) rfl (by kernel_rfl) (by kernel_rfl) (by kernel_rfl) (fun _ _ _ h => h) (Or.inl ⟨by kernel_rfl, ?_⟩) (by assumption) ?_
            rotate_left
            · (intro ww hSw; (try dsimp only at hSw); go_simp); (try with_reducible rfl)
            (try simp only [Act.put, List.setIfInBounds_toArray, List.set_cons_zero, List.set_cons_succ])
            refine wpAnyH_done (by kernel_rfl) ?_ _
            have HFIN := Lib.hid (runW_next (op := op) (q := q) (x := ⟨X, p5, q5⟩) (E' := E) (e' := e) HR.out HR.out.err (HRUN.out) H5.out HP5.out HQ5.out (HB7.out _ _) HO8.out HG8.out HT8.out HL8.out HB9.out HO9.out HQL.out HOO8.out HG9.out rfl HT9.out)
            go_wp2
            go_roundg gg
            case measure => omega
            case rel => exact ⟨k + 1, _, _, _, _, by go_num, rfl, by omega, HFIN⟩
    · have HEND := Lib.hid (runR_end HR.out.run (by rw [HL.out]; omega))
      have HRE := Lib.hid (resE_some HLC.out HEND.out)
      have HRA := Lib.hid (resA_some HEND.out)
      have k1 : ¬ (k : Int) < (n : Int) := by omega
      have HAL := Lib.hid (show all.length = C.length by have h1 := HR.out.run.len; rw [List.length_map] at h1; rw [HL.out]; omega)
      rcases HR.out.oo.cases with ⟨rfl, rfl⟩ | ⟨g2, cap2, rfl⟩
      · have HE := Lib.hid (show resE C = 2 from HRE.out)
        go_wp2
        refine bodyPost_ret (v := .tuple #[.slice none 0 0, .int .i64 2]) (by simp [results, Try.results13, go_sem]) rfl ⟨HR.out.below, .inl ⟨by rw [HE.out]; decide, by rw [HE.out]⟩⟩
      · obtain ⟨M, hM⟩ : ∃ M, op.length = M := ⟨_, rfl⟩
        rw [List.length_map, hM] at HRE
        rw [hM] at HR ⊢
        clear hM
        by_cases hM1 : M = 1
        · subst hM1
          have herr := HR.out.err
          cases e with
          | true =>
            have HE := Lib.hid (show resE C = 6 from HRE.out)
            obtain rfl : E = 6 := herr
            go_wp2
            refine bodyPost_ret (v := .tuple #[.slice none 0 0, .int .i64 6]) (by simp [results, Try.results13, go_sem]) rfl ⟨HR.out.below, .inl ⟨by rw [HE.out]; decide, by rw [HE.out]⟩⟩
          | false =>
            have HE := Lib.hid (show resE C = 0 from HRE.out)
            obtain rfl : E = 0 := herr
            obtain ⟨ra, rc, hra, hres⟩ := ownR_res HR.out.oa HR.out.sa HRA.out HAL.out
            subst hra
            have HRS := Lib.hid hres
            clear hres
            go_wp2
            refine bodyPost_ret (v := .tuple #[.slice ra C.length rc, .int .i64 0]) (by simp [results, Try.results13, go_sem]) rfl ⟨HR.out.below, .inr ⟨HE.out, ra, rc, rfl, HRS.out⟩⟩
        · have hne : ((M : Int) != 1) = true := bne_iff_ne.2 (by omega)
          have HE := Lib.hid (HRE.out.trans (if_pos hM1))
          clear hM1
          go_wp2
          refine bodyPost_ret (v := .tuple #[.slice none 0 0, .int .i64 2]) (by simp [results, Try.results13, go_sem]) rfl ⟨HR.out.below, .inl ⟨by rw [HE.out]; decide, by rw [HE.out]⟩⟩

end Go.Proofs.Ytiliobfgmelncaa
