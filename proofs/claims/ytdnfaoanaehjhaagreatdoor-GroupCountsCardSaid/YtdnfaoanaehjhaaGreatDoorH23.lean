/- GrpSum, ShpValue, put together. -/
import Derived.Test.YtdnfaoanaehjhaaGreatDoorH9
import Derived.Test.YtdnfaoanaehjhaaGreatDoorH20
import Derived.Test.YtdnfaoanaehjhaaGreatDoorH6
import Derived.Test.YtdnfaoanaehjhaaGreatDoorH21
import Derived.Test.YtdnfaoanaehjhaaGreatDoorH17
import Derived.Test.YtdnfaoanaehjhaaGreatDoorH22
import Derived.Test.YtdnfaoanaehjhaaGreatDoorH3
import Derived.Test.YtdnfaoanaehjhaaGreatDoorH7
import Derived.Deep.RegionHeld3
import Derived.Deep.QuietTactic
import Derived.BigQuiet

/- Counts and sums as terms: package group's count, adder and sumOf, for every list of terms. -/
namespace Go.Proofs.YtdnfaoanaehjhaaGreatDoor
open Go.RowKit

/- a sum is right -/
theorem Nm.made_sum {v : Int} {s : Nat} {d : Bool} {v' : Int} {s' : Nat} {d' : Bool} (hr : Nm.rightZ v s d = true) (hr' : Nm.rightZ v' s' d' = true) (h : (Nm.madeL (Nm.amt v s + Nm.amt v' s') 4 (Nm.decOf d d')).2 = true) : NumR (Nm.madeL (Nm.amt v s + Nm.amt v' s') 4 (Nm.decOf d d')).1 := by
  obtain ⟨⟨p1, p2⟩, ⟨p3, p4⟩, p5⟩ := (Nm.rightZ_iff _ _ _).1 hr
  obtain ⟨⟨q1, q2⟩, ⟨q3, q4⟩, q5⟩ := (Nm.rightZ_iff _ _ _).1 hr'
  obtain ⟨X, hX⟩ : ∃ X, Nm.amt v s + Nm.amt v' s' = X := ⟨_, rfl⟩
  rw [hX] at h ⊢
  have hb : Nm.boundZ (Nm.cutZ X 4).1 = true := by
    cases e : Nm.boundZ (Nm.cutZ X 4).1
    · rw [Nm.madeL_no _ _ _ e] at h; cases h
    · rfl
  have hb' : -999999999 ≤ (Nm.cutZ X 4).1 ∧ (Nm.cutZ X 4).1 ≤ 999999999 := by simpa [Nm.boundZ] using hb
  have hj := Nm.cut_le X 4
  rw [Nm.madeL_yes _ _ _ hb]
  refine ⟨⟨_, rfl, hj⟩, hb'.1, hb'.2, ?_⟩
  show Nm.rightZ (Nm.cutZ X 4).1 ((Nm.cutZ X 4).2 : Nat) (Nm.decOf d d') = true
  rw [Nm.rightZ_iff]
  refine ⟨hb', ⟨by omega, by omega⟩, ?_⟩
  have he := Nm.strip_end 4 X
  rw [← Nm.cut4] at he
  rcases he with he | he
  · left; omega
  · cases hd : Nm.decOf d d' with
    | true => exact .inr ⟨rfl, he⟩
    | false =>
      left
      have hd0 : d = false ∧ d' = false := by cases d <;> cases d' <;> simp [Nm.decOf] at hd <;> simp
      have s0 : s = 0 := by
        rcases p5 with e | e
        · omega
        · rw [hd0.1] at e; cases e.1
      have s0' : s' = 0 := by
        rcases q5 with e | e
        · omega
        · rw [hd0.2] at e; cases e.1
      have e : X = (v + v') * 10000 := by
        rw [← hX, s0, s0']
        show v * 10000 + v' * 10000 = _
        omega
      have := Nm.cut_whole X _ e
      omega
theorem num_nil : NumR Nm.noNum := ⟨⟨0, rfl, by omega⟩, by decide, by decide, by decide⟩
/- one more -/
theorem add_is (m : Nm.NumL) (t : TermL) : addP (some m) t = if (ofP t).2 = true then (if (reckP 1 m (ofP t).1).2 = true then some (reckP 1 m (ofP t).1).1 else none) else none := rfl
theorem reck_is {m n : Nm.NumL} {s s' : Nat} (h : m.s = s) (h' : n.s = s') : reckP 1 m n = Nm.madeL (Nm.amt m.v s + Nm.amt n.v s') 4 (Nm.decOf m.d n.d) := by
  unfold reckP
  rw [if_pos rfl, h, h']
  rfl
theorem add_right {m q : Nm.NumL} {t : TermL} (hm : NumR m) (h : addP (some m) t = some q) : NumR q := by
  rw [add_is] at h
  split at h
  · rename_i h1
    split at h
    · rename_i h2
      have hn := of_numR h1
      obtain ⟨s, e1, _⟩ := hm.s
      obtain ⟨s', e2, _⟩ := hn.s
      rw [reck_is e1 e2] at h h2
      have hr := hm.r
      have hr' := hn.r
      rw [e1] at hr
      rw [e2] at hr'
      have := Nm.made_sum hr hr' h2
      cases h
      exact this
    · cases h
  · cases h
theorem sum_right {l : List TermL} {q : Nm.NumL} (h : sumP l = some q) : NumR q := by
  revert q
  refine snoc_ind (P := fun l => ∀ {q : Nm.NumL}, sumP l = some q → NumR q) (fun {q} h => ?_) (fun r t ih {q} h => ?_) l
  · have e : Nm.noNum = q := Option.some.inj h
    rw [← e]; exact num_nil
  · rw [sum_snoc] at h
    cases hs : sumP r with
    | none => rw [hs] at h; cases h
    | some m => rw [hs] at h; exact add_right (ih hs) h

theorem term_num {n : Nm.NumL} {s : Nat} (h : n.s = s) : Nm.termV n.v s n.d = (termN n).v := by
  unfold Nm.termV termN litT TermL.v
  rw [h]
  cases n.d <;> rfl
theorem count_term (n : Nat) : Nm.termV n (0 : Nat) false = (countT n).v := by
  have e : Nm.textL n 0 false = Lib.decDigits n := by
    unfold Nm.textL
    simp
  unfold Nm.termV countT TermL.v
  rw [e]; rfl

set_option maxRecDepth 100000 in
set_option maxHeartbeats 2000000 in
theorem count_calls (n : Nat) (hn : n ≤ 999999999) (w : World) (hg : GoodN w) : Calls Tryz.prog 68 #[.int .i64 n] w fun e w' => e = .returned (countT n).v ∧ Below w.heap.size w w' := by
  have hr : Nm.rightZ n (0 : Nat) false = true := (Nm.rightZ_iff _ _ _).2 ⟨⟨by omega, by omega⟩, ⟨by omega, by omega⟩, .inl rfl⟩
  have HT : Hid (∀ W, GoodN W → Calls Tryz.prog 95 #[.agg #[.int .i64 n, .int .i64 0, .bool false]] W fun e w' => e = .returned (.tuple #[(countT n).v, .int .i64 0]) ∧ Below W.heap.size W w') := Lib.hid fun W hW => by
    have := Nm.Term_right n 0 false W hW hr (by omega) (by omega) (by omega)
    rw [count_term] at this
    exact this
  have HG := Lib.hid hg
  clear hr hg
  generalize countT n = t at HT ⊢
  obtain ⟨k, x, y, z⟩ := t
  simp only [TermL.v] at HT ⊢
  go_enter Tryz.func68, Tryz.ntmps68
  go_wp2_with fail
  refine (HT.out _ (by (repeat (with_reducible (first | exact HG.out | refine Nm.Good.alloc ?_ _))))).mono ?_
  rintro e w1 ⟨rfl, hb1⟩
  obtain ⟨hc, hf⟩ := bcell hb1
  have hz : w.heap.size < w1.heap.size := by have := hb1.size; simp at this; omega
  have HB1 := Lib.hid (one_box hb1)
  clear hb1
  go_wp2
  refine bodyPost_ret (v := .agg #[.int .i64 k, .string (bs x), .string (bs y), .string (bs z)]) (by simp [results, Tryz.results68, hc, hz, go_sem]) rfl ⟨rfl, ?_⟩
  repeat (with_reducible (first | exact HB1.out | refine Below.setCell ?_ (by simp) _ | refine Below.alloc ?_ (by simp; omega) _))

def cellsN (n : Nm.NumL) : Array Value := #[.int .i64 n.v, .int .i64 n.s, .bool n.d]
/- what the closure that adds leaves -/
def AddT (X : Nat) (w : World) (m : Nm.NumL) (t : TermL) (e : Ending) (w' : World) : Prop :=
  ∃ (q : Nm.NumL) (err : Int), e = .returned (.tuple #[.agg #[.int .i64 q.v, .int .i64 q.s, .bool q.d], .int .i64 err]) ∧ (match addP (some m) t with
    | some r => err = 0 ∧ q = r ∧ Blk w' X 48 (cellsN r)
    | none => err ≠ 0) ∧ w.grownBy w' (some X)

set_option maxRecDepth 100000 in
set_option maxHeartbeats 4000000 in
theorem add1_calls (X : Nat) (m : Nm.NumL) (hm : NumR m) (t : TermL) (ht : t.ok) (w : World) (hg : GoodN w) (hX : Blk w X 48 (cellsN m)) :
    Calls Tryz.prog 107 #[t.v, .pointer (some ⟨X, 0, none⟩)] w (AddT X w m t) := by
  have HO := Lib.hid (fun W hW => Of_calls t ht W hW)
  have HR := Lib.hid (show ofR t = Nm.readRet (ofP t) from rfl)
  have HA := Lib.hid (add_is m t)
  have HG := Lib.hid hg
  have HON := Lib.hid (@of_numR t)
  have HM := Lib.hid hm
  unfold AddT
  rw [HA.out]
  clear HA hg hm ht
  generalize ofP t = p at HR HON ⊢
  generalize ofR t = r at HO HR
  have hlx := blk_lt hX
  have x0 : w.cell? ⟨X, 0, none⟩ = some (.int .i64 m.v) := (blk_cell hX 0).trans rfl
  have x1 : w.cell? ⟨X, 1, none⟩ = some (.int .i64 m.s) := (blk_cell hX 1).trans rfl
  have x2 : w.cell? ⟨X, 2, none⟩ = some (.bool m.d) := (blk_cell hX 2).trans rfl
  have HX := Lib.hid hX
  clear hX
  obtain ⟨k, x, y, z⟩ := t
  simp only [TermL.v] at HO ⊢
  obtain ⟨⟨nv, ns, nd⟩, b⟩ := p
  have HR2 := Lib.hid (show r = .tuple #[.agg #[.int .i64 nv, .int .i64 ns, .bool nd], .int .i64 (Nm.errZ b)] from HR.out)
  clear HR
  obtain rfl := HR2.out
  clear HR2
  obtain ⟨A, hA⟩ : ∃ A, w.heap.size = A := ⟨_, rfl⟩
  obtain ⟨W0, hW0⟩ : ∃ W0, (w.alloc (.cells #[.int .i64 k, .string (bs x), .string (bs y), .string (bs z)] 37)).alloc (.cells #[.int .i64 0, .int .i64 0, .bool false] 48) = W0 := ⟨_, rfl⟩
  have HAE := Lib.hid hA
  have HW0 := Lib.hid hW0
  have HB0 := Lib.hid (show Below w.heap.size w W0 by rw [← hW0]; exact two_alloc _ _ _)
  have HR0 := Lib.hid (show Blk W0 (A + 1) 48 #[.int .i64 0, .int .i64 0, .bool false] by
    rw [← hW0]
    have := blk_new (w.alloc (.cells #[.int .i64 k, .string (bs x), .string (bs y), .string (bs z)] 37)) 48 #[.int .i64 0, .int .i64 0, .bool false]
    rw [World.size_alloc, hA] at this
    exact this)
  have HX0 := Lib.hid (blk_on HX.out HB0.out (blk_lt HX.out))
  clear hA hW0
  cases b with
  | false =>
    go_enter Tryz.func107, Tryz.ntmps107
    go_wp2_with fail
    rw [HW0.out, HAE.out]
    refine (HO.out _ (HG.out.on HB0.out)).mono ?_
    rintro e w1 ⟨rfl, hb1⟩
    have HB1 := Lib.hid (fb2 HB0.out hb1 (Nat.le_refl _))
    have HR1 := Lib.hid (blk_on HR0.out hb1 (blk_lt HR0.out))
    clear hb1
    obtain ⟨N, hN⟩ : ∃ N, w1.heap.size = N := ⟨_, rfl⟩
    obtain ⟨W2, hW2⟩ : ∃ W2, w1.alloc (.cells #[.int .i64 nv, .int .i64 ns, .bool nd] 48) = W2 := ⟨_, rfl⟩
    have HR2 := Lib.hid (show Blk W2 (A + 1) 48 #[.int .i64 0, .int .i64 0, .bool false] by rw [← hW2]; exact blk_alloc HR1.out _)
    have HB2 := Lib.hid (show Below w.heap.size w W2 by rw [← hW2]; exact fb2 HB1.out (box_below _ _) (Nat.le_refl _))
    have HNE := Lib.hid hN
    have HW2 := Lib.hid hW2
    clear hN hW2
    go_wp2_with (refine whole_abs 48 (.tmp 3) (.tmp 14) ⟨rfl, rfl⟩ (A + 1) #[.int .i64 0, .int .i64 0, .bool false] rfl rfl 48 #[.int .i64 0, .int .i64 0, .bool false] (by rw [HW2.out]; exact HR2.out) (by kernel_rfl) rfl (by kernel_rfl) ?_; intro w9 hA9 hG9)
    have q0 : w9.cell? ⟨A + 1, 0, none⟩ = some (.int .i64 0) := (blk_cell hA9.out 0).trans rfl
    have q1 : w9.cell? ⟨A + 1, 1, none⟩ = some (.int .i64 0) := (blk_cell hA9.out 1).trans rfl
    have q2 : w9.cell? ⟨A + 1, 2, none⟩ = some (.bool false) := (blk_cell hA9.out 2).trans rfl
    refine bodyPost_ret (v := .tuple #[.agg #[.int .i64 0, .int .i64 0, .bool false], .int .i64 2]) (by simp [results, Tryz.results107, q0, q1, q2, Nm.errZ, go_sem]) rfl ⟨Nm.noNum, 2, rfl, by simp, ?_⟩
    have hg9 := hG9.out
    rw [HW2.out] at hg9
    have hb9 := HB2.out.grown hg9 HB2.out.size (fun j hj => by injection hj with hj; have := HAE.out; omega)
    exact ⟨hb9.os, hb9.tape, hb9.output, hb9.size, fun i hi _ => hb9.block i hi⟩
  | true =>
    have hn := HON.out rfl
    obtain ⟨s, e1, hs4⟩ := HM.out.s
    obtain ⟨s', e2, hs4'⟩ := hn.s
    dsimp only at e2
    subst e2
    have hr := HM.out.r
    rw [e1] at hr x1
    have HC := Lib.hid (fun W hW => Nm.Add_right m.v s m.d nv s' nd W hW hr hn.r hs4 HM.out.lo HM.out.hi hs4' hn.lo hn.hi)
    rw [← reck_is (n := ⟨nv, (s' : Int), nd⟩) e1 rfl] at HC
    simp only [if_true]
    generalize reckP 1 m ⟨nv, (s' : Int), nd⟩ = p at HC ⊢
    obtain ⟨⟨qv, qs, qd⟩, b⟩ := p
    simp only [Nm.reckL, Nm.NumL.val] at HC
    suffices key : Calls Tryz.prog 107 #[.agg #[.int .i64 k, .string (bs x), .string (bs y), .string (bs z)], .pointer (some ⟨X, 0, none⟩)] w fun e w' => e = .returned (.tuple #[.agg #[.int .i64 qv, .int .i64 qs, .bool qd], .int .i64 (Nm.overZ b)]) ∧ Blk w' X 48 (cellsN ⟨qv, qs, qd⟩) ∧ w.grownBy w' (some X) from key.mono fun e w' ⟨h1, h2, h3⟩ => ⟨⟨qv, qs, qd⟩, Nm.overZ b, h1, by
      cases b with
      | true => exact ⟨rfl, rfl, h2⟩
      | false => show Nm.overZ false ≠ 0; decide, h3⟩
    clear hn hr hs4 hs4' HON
    go_enter Tryz.func107, Tryz.ntmps107
    go_wp2_with fail
    rw [HW0.out, HAE.out]
    refine (HO.out _ (HG.out.on HB0.out)).mono ?_
    rintro e w1 ⟨rfl, hb1⟩
    have HB1 := Lib.hid (fb2 HB0.out hb1 (Nat.le_refl _))
    have HR1 := Lib.hid (blk_on HR0.out hb1 (blk_lt HR0.out))
    have HX1 := Lib.hid (blk_on HX0.out hb1 (blk_lt HX0.out))
    clear hb1
    obtain ⟨N, hN⟩ : ∃ N, w1.heap.size = N := ⟨_, rfl⟩
    obtain ⟨W2, hW2⟩ : ∃ W2, w1.alloc (.cells #[.int .i64 nv, .int .i64 s', .bool nd] 48) = W2 := ⟨_, rfl⟩
    have HR2 := Lib.hid (show Blk W2 (A + 1) 48 #[.int .i64 0, .int .i64 0, .bool false] by rw [← hW2]; exact blk_alloc HR1.out _)
    have HX2 := Lib.hid (show Blk W2 X 48 (cellsN m) by rw [← hW2]; exact blk_alloc HX1.out _)
    have HB2 := Lib.hid (show Below w.heap.size w W2 by rw [← hW2]; exact fb2 HB1.out (box_below _ _) (Nat.le_refl _))
    have hN1 := HB1.out.size
    have y0 : w1.cell? ⟨X, 0, none⟩ = some (.int .i64 m.v) := (blk_cell HX1.out 0).trans rfl
    have y1 : w1.cell? ⟨X, 1, none⟩ = some (.int .i64 s) := (blk_cell HX1.out 1).trans (by show some (Value.int .i64 m.s) = _; rw [e1])
    have y2 : w1.cell? ⟨X, 2, none⟩ = some (.bool m.d) := (blk_cell HX1.out 2).trans rfl
    have hx1 : X < w1.heap.size := by omega
    have hx2 : ¬ w1.heap.size = X := by omega
    have hx3 : ¬ X = w1.heap.size := by omega
    have HNE := Lib.hid hN
    have HW2 := Lib.hid hW2
    clear hN hW2
    go_wp2_with fail
    rw [HW2.out]
    refine (HC.out _ (HG.out.on HB2.out)).mono ?_
    rintro e w3 ⟨rfl, hb3⟩
    have HB3 := Lib.hid (fb2 HB2.out hb3 (Nat.le_refl _))
    have HX3 := Lib.hid (blk_on HX2.out hb3 (blk_lt HX2.out))
    have HR3 := Lib.hid (blk_on HR2.out hb3 (blk_lt HR2.out))
    have hlX := Lib.hid (show X < w.heap.size from blk_lt HX.out)
    clear hb3 y0 y1 y2 x0 x1 x2
    go_wp2_with (first
      | (refine whole_abs 48 (.tmp 1) (.tmp 20) ⟨rfl, rfl⟩ X #[.int .i64 qv, .int .i64 qs, .bool qd] rfl rfl 48 (cellsN m) HX3.out (by kernel_rfl) rfl (by kernel_rfl) ?_; intro w8 hA8 hG8; have HA8 := Lib.hid hA8.out; have HG8 := Lib.hid hG8.out; have HR8 := Lib.hid (blk_grown HR3.out (by have := hlX.out; have := HAE.out; omega) hG8.out); have v0 : w8.cell? ⟨X, 0, none⟩ = some (.int .i64 qv) := (blk_cell hA8.out 0).trans rfl; have v1 : w8.cell? ⟨X, 1, none⟩ = some (.int .i64 qs) := (blk_cell hA8.out 1).trans rfl; have v2 : w8.cell? ⟨X, 2, none⟩ = some (.bool qd) := (blk_cell hA8.out 2).trans rfl; clear hA8 hG8)
      | (refine whole_abs 48 (.tmp 3) (.tmp 22) ⟨rfl, rfl⟩ (A + 1) #[.int .i64 qv, .int .i64 qs, .bool qd] rfl rfl 48 #[.int .i64 0, .int .i64 0, .bool false] HR8.out (by kernel_rfl) rfl (by kernel_rfl) ?_; intro w9 hA9 hG9))
    have q0 : w9.cell? ⟨A + 1, 0, none⟩ = some (.int .i64 qv) := (blk_cell hA9.out 0).trans rfl
    have q1 : w9.cell? ⟨A + 1, 1, none⟩ = some (.int .i64 qs) := (blk_cell hA9.out 1).trans rfl
    have q2 : w9.cell? ⟨A + 1, 2, none⟩ = some (.bool qd) := (blk_cell hA9.out 2).trans rfl
    have hgr : w.grownBy w9 (some X) := by
      have h3 : w.grownBy w3 (some X) := ⟨HB3.out.os, HB3.out.tape, HB3.out.output, HB3.out.size, fun i hi _ => HB3.out.block i hi⟩
      refine (h3.andThen HG8.out (fun j hj => .inr hj)).andThen hG9.out (fun j hj => .inl ?_)
      injection hj with hj
      have := HAE.out
      omega
    have HX9 : Blk w9 X 48 (cellsN ⟨qv, qs, qd⟩) := blk_grown HA8.out (by have := hlX.out; have := HAE.out; omega) hG9.out
    refine bodyPost_ret (v := .tuple #[.agg #[.int .i64 qv, .int .i64 qs, .bool qd], .int .i64 (Nm.overZ b)]) (by simp [results, Tryz.results107, q0, q1, q2, go_sem]) rfl ⟨rfl, HX9, hgr⟩

def SumR (A X Y : Nat) (w : World) (l : List TermL) (k : Nat) (wr : World) : Prop :=
  ∃ m, sumP (l.take k) = some m ∧ Blk wr A 37 #[.int .i64 0, .string ⟨#[]⟩, .string ⟨#[]⟩, .string ⟨#[]⟩] ∧ Blk wr X 48 (cellsN m) ∧ Blk wr Y 48 (cellsN m) ∧ Below w.heap.size w wr
theorem sum_next {l : List TermL} {k : Nat} (hk : k < l.length) : sumP (l.take (k + 1)) = addP (sumP (l.take k)) l[k] := by rw [List.take_succ_eq_append_getElem hk, sum_snoc]
theorem sumT_some {l : List TermL} {n : Nm.NumL} (h : sumP l = some n) : sumT l = termN n := by unfold sumT; rw [h]
theorem sumT_none {l : List TermL} (h : sumP l = none) : sumT l = nilT := by unfold sumT; rw [h]

set_option maxRecDepth 100000 in
set_option maxHeartbeats 4000000 in
theorem sumOf_calls (l : List TermL) (hl : ∀ t ∈ l, t.ok) (a : Option Addr) (n c : Nat) (w : World) (hg : GoodN w) (h : TrmA w a n c l) : Calls Tryz.prog 70 #[.slice a n c] w fun e w' => e = .returned (sumT l).v ∧ Below w.heap.size w w' := by
  have HIN := Lib.hid h
  have HOK := Lib.hid hl
  have HG := Lib.hid hg
  have HL := Lib.hid h.len
  have hcp := h.cap
  have hms := h.most
  unfold maxLen at hms
  obtain ⟨A, hA⟩ : ∃ A, w.heap.size = A := ⟨_, rfl⟩
  obtain ⟨W0, hW0⟩ : ∃ W0, ((w.alloc (.cells #[.int .i64 0, .string ⟨#[]⟩, .string ⟨#[]⟩, .string ⟨#[]⟩] 37)).alloc (.cells #[.int .i64 0, .int .i64 0, .bool false] 48)).alloc (.cells #[.int .i64 0, .int .i64 0, .bool false] 48) = W0 := ⟨_, rfl⟩
  have HS0 := Lib.hid (show SumR A (A + 1) (A + 1 + 1) w l 0 W0 from by
    refine ⟨Nm.noNum, by rw [List.take_zero]; rfl, ?_, ?_, ?_, ?_⟩
    · rw [← hW0, ← hA]; exact blk_alloc (blk_alloc (blk_new _ _ _) _) _
    · rw [← hW0]
      refine blk_alloc ?_ _
      have := blk_new (w.alloc (.cells #[.int .i64 0, .string ⟨#[]⟩, .string ⟨#[]⟩, .string ⟨#[]⟩] 37)) 48 #[.int .i64 0, .int .i64 0, .bool false]
      rw [World.size_alloc, hA] at this
      exact this
    · rw [← hW0]
      have := blk_new ((w.alloc (.cells #[.int .i64 0, .string ⟨#[]⟩, .string ⟨#[]⟩, .string ⟨#[]⟩] 37)).alloc (.cells #[.int .i64 0, .int .i64 0, .bool false] 48)) 48 #[.int .i64 0, .int .i64 0, .bool false]
      rw [World.size_alloc, World.size_alloc, hA] at this
      exact this
    · rw [← hW0]; exact fb2 (two_alloc _ _ _) (box_below _ _) (Nat.le_refl _))
  have HAE := Lib.hid hA
  have HW0 := Lib.hid hW0
  clear hA hW0 h hl hg
  go_enter Tryz.func70, Tryz.ntmps70
  go_wp2
  rw [HW0.out, HAE.out]
  go_loopg [5, 14] n (fun g e i wr => ∃ k : Nat, i = .int .i64 k ∧ k + g = n ∧ e = .int .i64 0 ∧ Hid (SumR A (A + 1) (A + 1 + 1) w l k wr))
  case atStart => exact ⟨0, rfl, by omega, rfl, HS0⟩
  case round =>
    obtain ⟨W1, rfl⟩ : ∃ W1, W1 = wr := ⟨_, rfl⟩
    obtain ⟨k, rfl, hkg, rfl, HRD⟩ := hrel
    obtain ⟨m, hm, hA1, hX1, hY1, hB1⟩ := HRD.out
    have HM := Lib.hid hm
    have HA1 := Lib.hid hA1
    have HX1 := Lib.hid hX1
    have HY1 := Lib.hid hY1
    have HB1 := Lib.hid hB1
    clear hm hA1 hX1 hY1 hB1 HRD
    have k0 : (0 : Int) ≤ (k : Int) := by omega
    by_cases hk : k < n
    · obtain ⟨gg, rfl⟩ : ∃ gg, gk = gg + 1 := ⟨gk - 1, by omega⟩
      have hkL : k < l.length := by rw [HL.out]; exact hk
      obtain ⟨g, o, ha, hgw, hcells⟩ := HIN.out.cells (by omega)
      subst ha
      have hgW : g < W1.heap.size := Nat.lt_of_lt_of_le hgw HB1.out.size
      obtain ⟨c0, c1, c2, c3⟩ := (hcells k hkL).on HB1.out hgw
      have HNX := Lib.hid (sum_next hkL)
      have HTK := Lib.hid (HOK.out _ (List.getElem_mem hkL))
      have HSN := Lib.hid (fun (q : sumP (l.take (k + 1)) = none) => sumT_none (sum_none q))
      clear hcells
      generalize l[k] = y at c0 c1 c2 c3 HNX HTK
      obtain ⟨W2, hW2⟩ : ∃ W2, W1.alloc (.cells #[.int .i64 y.k, .string (bs y.x), .string (bs y.y), .string (bs y.z)] 37) = W2 := ⟨_, rfl⟩
      have HB2 := Lib.hid (show Below w.heap.size w W2 by rw [← hW2]; exact fb2 HB1.out (box_below _ _) (Nat.le_refl _))
      have HX2 := Lib.hid (show Blk W2 (A + 1) 48 (cellsN m) by rw [← hW2]; exact blk_alloc HX1.out _)
      have HY2 := Lib.hid (show Blk W2 (A + 1 + 1) 48 (cellsN m) by rw [← hW2]; exact blk_alloc HY1.out _)
      have HA2 := Lib.hid (show Blk W2 A 37 #[.int .i64 0, .string ⟨#[]⟩, .string ⟨#[]⟩, .string ⟨#[]⟩] by rw [← hW2]; exact blk_alloc HA1.out _)
      have HW2 := Lib.hid hW2
      clear hW2
      have hca := add1_calls (A + 1) m (sum_right HM.out) y HTK.out W2 (HG.out.on HB2.out) HX2.out
      have k1 : (k : Int) < (n : Int) := by omega
      cases hq : addP (some m) y with
      | none =>
        have HE := Lib.hid (HSN.out (by rw [HNX.out, HM.out]; exact hq))
        have HC : Hid (Calls Tryz.prog 107 #[.agg #[.int .i64 y.k, .string (bs y.x), .string (bs y.y), .string (bs y.z)], .pointer (some ⟨A + 1, 0, none⟩)] W2 fun e w' => ∃ (q : Nm.NumL) (err : Int), e = .returned (.tuple #[.agg #[.int .i64 q.v, .int .i64 q.s, .bool q.d], .int .i64 err]) ∧ err ≠ 0 ∧ W2.grownBy w' (some (A + 1))) := Lib.hid (hca.mono fun e w' ⟨q, err, h1, h2, h3⟩ => ⟨q, err, h1, by rw [hq] at h2; exact h2, h3⟩)
        clear hca hq HNX HSN HM HX1 HY1 HA1
        go_wp2_with fail
        rw [HW2.out]
        refine HC.out.mono ?_
        rintro e w3 ⟨q, err, rfl, herr, hg3⟩
        have hne : (err != 0) = true := bne_iff_ne.2 herr
        have HY3 := Lib.hid (blk_grown HY2.out (by omega) hg3)
        have HA3 := Lib.hid (blk_grown HA2.out (by omega) hg3)
        have HB3 := Lib.hid (HB2.out.grown hg3 HB2.out.size (fun j hj => by injection hj with hj; have := HAE.out; omega))
        clear hg3 herr
        go_wp2_with (first
          | (refine whole_abs 48 (.tmp 4) (.tmp 22) ⟨rfl, rfl⟩ (A + 1 + 1) #[.int .i64 q.v, .int .i64 q.s, .bool q.d] rfl rfl 48 (cellsN m) HY3.out (by kernel_rfl) rfl (by kernel_rfl) ?_; intro w4 hY4 hG4; have HA4 := Lib.hid (blk_grown HA3.out (by omega) hG4.out); have HB4 := Lib.hid (HB3.out.grown hG4.out HB3.out.size (fun j hj => by injection hj with hj; have := HAE.out; omega)); clear hY4 hG4)
          | (refine whole_abs 37 (.tmp 2) (.tmp 26) ⟨rfl, rfl⟩ A #[.int .i64 0, .string ⟨#[]⟩, .string ⟨#[]⟩, .string ⟨#[]⟩] rfl rfl 37 #[.int .i64 0, .string ⟨#[]⟩, .string ⟨#[]⟩, .string ⟨#[]⟩] HA4.out (by kernel_rfl) rfl (by kernel_rfl) ?_; intro w5 hA5 hG5))
        have q0 : w5.cell? ⟨A, 0, none⟩ = some (.int .i64 0) := (blk_cell hA5.out 0).trans rfl
        have q1 : w5.cell? ⟨A, 1, none⟩ = some (.string ⟨#[]⟩) := (blk_cell hA5.out 1).trans rfl
        have q2 : w5.cell? ⟨A, 2, none⟩ = some (.string ⟨#[]⟩) := (blk_cell hA5.out 2).trans rfl
        have q3 : w5.cell? ⟨A, 3, none⟩ = some (.string ⟨#[]⟩) := (blk_cell hA5.out 3).trans rfl
        refine bodyPost_ret (v := .agg #[.int .i64 0, .string ⟨#[]⟩, .string ⟨#[]⟩, .string ⟨#[]⟩]) (by simp [results, Tryz.results70, q0, q1, q2, q3, go_sem]) rfl ⟨by rw [HE.out]; rfl, ?_⟩
        exact HB4.out.grown hG5.out HB4.out.size (fun j hj => by injection hj with hj; have := HAE.out; omega)
      | some r =>
        have HN2 := Lib.hid (show sumP (l.take (k + 1)) = some r by rw [HNX.out, HM.out]; exact hq)
        have HC : Hid (Calls Tryz.prog 107 #[.agg #[.int .i64 y.k, .string (bs y.x), .string (bs y.y), .string (bs y.z)], .pointer (some ⟨A + 1, 0, none⟩)] W2 fun e w' => e = .returned (.tuple #[.agg #[.int .i64 r.v, .int .i64 r.s, .bool r.d], .int .i64 0]) ∧ Blk w' (A + 1) 48 (cellsN r) ∧ W2.grownBy w' (some (A + 1))) := Lib.hid (hca.mono fun e w' ⟨q, err, h1, h2, h3⟩ => by
          rw [hq] at h2
          obtain ⟨rfl, rfl, h4⟩ := h2
          exact ⟨h1, h4, h3⟩)
        clear hca hq HNX HSN HM HX1 HY1 HA1
        go_wp2_with fail
        rw [HW2.out]
        refine HC.out.mono ?_
        rintro e w3 ⟨rfl, hX3, hg3⟩
        have HX3 := Lib.hid hX3
        have HY3 := Lib.hid (blk_grown HY2.out (by omega) hg3)
        have HA3 := Lib.hid (blk_grown HA2.out (by omega) hg3)
        have HB3 := Lib.hid (HB2.out.grown hg3 HB2.out.size (fun j hj => by injection hj with hj; have := HAE.out; omega))
        clear hg3 hX3
        go_wp2_with (refine whole_abs 48 (.tmp 4) (.tmp 22) ⟨rfl, rfl⟩ (A + 1 + 1) #[.int .i64 r.v, .int .i64 r.s, .bool r.d] rfl rfl 48 (cellsN m) HY3.out (by kernel_rfl) rfl (by kernel_rfl) ?_; intro w4 hY4 hG4; have HY4 := Lib.hid hY4.out; have HX4 := Lib.hid (blk_grown HX3.out (by omega) hG4.out); have HA4 := Lib.hid (blk_grown HA3.out (by omega) hG4.out); have HB4 := Lib.hid (HB3.out.grown hG4.out HB3.out.size (fun j hj => by injection hj with hj; have := HAE.out; omega)); clear hY4 hG4)
        go_roundg gg
        case measure => omega
        case rel => exact ⟨k + 1, by go_num, by omega, rfl, Lib.hid ⟨r, HN2.out, HA4.out, HX4.out, HY4.out, HB4.out⟩⟩
    · have k1 : ¬ (k : Int) < (n : Int) := by omega
      have hs : sumP l = some m := by have := HM.out; rwa [List.take_of_length_le (by rw [HL.out]; omega)] at this
      have hr := sum_right hs
      obtain ⟨s, e1, hs4⟩ := hr.s
      have hrr := hr.r
      rw [e1] at hrr
      have HE := Lib.hid (sumT_some hs)
      have HT : Hid (∀ W, GoodN W → Calls Tryz.prog 95 #[.agg #[.int .i64 m.v, .int .i64 m.s, .bool m.d]] W fun e w' => e = .returned (.tuple #[(termN m).v, .int .i64 0]) ∧ Below W.heap.size W w') := Lib.hid fun W hW => by
        have := Nm.Term_right m.v s m.d W hW hrr hs4 hr.lo hr.hi
        rw [term_num (n := m) e1, ← e1] at this
        exact this
      clear hs hr hrr hs4 e1 HM HX1
      generalize termN m = t at HT HE
      obtain ⟨tk, tx, ty, tz⟩ := t
      simp only [TermL.v] at HT
      have y0 : W1.cell? ⟨A + 1 + 1, 0, none⟩ = some (.int .i64 m.v) := (blk_cell HY1.out 0).trans rfl
      have y1 : W1.cell? ⟨A + 1 + 1, 1, none⟩ = some (.int .i64 m.s) := (blk_cell HY1.out 1).trans rfl
      have y2 : W1.cell? ⟨A + 1 + 1, 2, none⟩ = some (.bool m.d) := (blk_cell HY1.out 2).trans rfl
      go_wp2_with fail
      refine (HT.out _ (HG.out.on HB1.out)).mono ?_
      rintro e w3 ⟨rfl, hb3⟩
      have HA3 := Lib.hid (blk_on HA1.out hb3 (blk_lt HA1.out))
      have HB3 := Lib.hid (fb2 HB1.out hb3 (Nat.le_refl _))
      clear hb3 y0 y1 y2
      go_wp2_with (refine whole_abs 37 (.tmp 2) (.tmp 33) ⟨rfl, rfl⟩ A #[.int .i64 tk, .string (bs tx), .string (bs ty), .string (bs tz)] rfl rfl 37 #[.int .i64 0, .string ⟨#[]⟩, .string ⟨#[]⟩, .string ⟨#[]⟩] (blk_alloc HA3.out _) (by kernel_rfl) rfl (by kernel_rfl) ?_; intro w5 hA5 hG5)
      have q0 : w5.cell? ⟨A, 0, none⟩ = some (.int .i64 tk) := (blk_cell hA5.out 0).trans rfl
      have q1 : w5.cell? ⟨A, 1, none⟩ = some (.string (bs tx)) := (blk_cell hA5.out 1).trans rfl
      have q2 : w5.cell? ⟨A, 2, none⟩ = some (.string (bs ty)) := (blk_cell hA5.out 2).trans rfl
      have q3 : w5.cell? ⟨A, 3, none⟩ = some (.string (bs tz)) := (blk_cell hA5.out 3).trans rfl
      refine bodyPost_ret (v := .agg #[.int .i64 tk, .string (bs tx), .string (bs ty), .string (bs tz)]) (by simp [results, Tryz.results70, q0, q1, q2, q3, go_sem]) rfl ⟨by rw [HE.out]; rfl, ?_⟩
      exact (fb2 HB3.out (box_below _ _) (Nat.le_refl _)).grown hG5.out (Nat.le_trans HB3.out.size (by simp)) (fun j hj => by injection hj with hj; have := HAE.out; omega)

end Go.Proofs.YtdnfaoanaehjhaaGreatDoor

/- What the order of values asks of a term: package shape's valueOf, compareValues, Compare, for every term. -/
namespace Go.Proofs.YtdnfaoanaehjhaaGreatDoor
open Go.RowKit

def numP (t : TermL) : Nm.NumL := if sortP t = 3 then (ofP t).1 else Nm.noNum
def valV (t : TermL) : Value := .agg #[.int .i64 (sortP t), .int .i64 (numP t).v, .int .i64 (numP t).s, .bool (numP t).d, .int .i64 t.k, .string (bs t.x), .string (bs t.y), .string (bs t.z)]
def valCells (t : TermL) : List Value := [.int .i64 (sortP t), .int .i64 (numP t).v, .int .i64 (numP t).s, .bool (numP t).d, .int .i64 t.k, .string (bs t.x), .string (bs t.y), .string (bs t.z)]

theorem sortP_kind {t : TermL} : sortP t = if t.k = 0 then 0 else if t.k = 3 then 1 else if t.k = 1 then 2 else if (ofP t).2 = true then 3 else 4 := rfl
theorem numP_not {t : TermL} (h : sortP t ≠ 3) : numP t = Nm.noNum := if_neg h
theorem numP_is {t : TermL} (h : sortP t = 3) : numP t = (ofP t).1 := if_pos h
theorem sort3_of {t : TermL} (h : sortP t = 3) : (ofP t).2 = true := by
  unfold sortP at h
  split at h
  · omega
  · split at h
    · omega
    · split at h
      · omega
      · split at h
        · assumption
        · omega

set_option maxRecDepth 100000 in
set_option maxHeartbeats 2000000 in
theorem valueOf_calls (t : TermL) (ht : t.ok) (w : World) (hg : GoodN w) :
    Calls Tryz.prog 98 #[t.v] w fun e w' => e = .returned (valV t) ∧ Below w.heap.size w w' := by
  have HO := Lib.hid (fun W hW => Of_calls t ht W hW)
  have HS := Lib.hid (sortP_kind (t := t))
  have HV := Lib.hid (show valV t = .agg #[.int .i64 (sortP t), .int .i64 (numP t).v, .int .i64 (numP t).s, .bool (numP t).d, .int .i64 t.k, .string (bs t.x), .string (bs t.y), .string (bs t.z)] from rfl)
  have HN := Lib.hid (@numP_not t)
  have HI := Lib.hid (@numP_is t)
  have HR := Lib.hid (show ofR t = Nm.readRet (ofP t) from rfl)
  have HNO := Lib.hid (@of_no t)
  have HG := Lib.hid hg
  clear ht hg
  generalize valV t = V at HV ⊢
  generalize sortP t = s at HS HV HN HI
  generalize numP t = m at HV HN HI
  generalize ofP t = q at HS HI HR HNO
  generalize ofR t = r at HO HR
  obtain ⟨k, x, y, z⟩ := t
  simp only [TermL.v] at HO ⊢
  dsimp only at HS HV
  by_cases h0 : k = 0
  · have hs : s = 0 := HS.out.trans (if_pos h0)
    have hm := HN.out (by omega)
    have HE := Lib.hid (show V = .agg #[.int .i64 0, .int .i64 0, .int .i64 0, .bool false, .int .i64 k, .string (bs x), .string (bs y), .string (bs z)] by rw [HV.out, hs, hm]; rfl)
    have g0 : (k == 0) = true := beq_iff_eq.2 h0
    clear hs hm h0 HO
    go_enter Tryz.func98, Tryz.ntmps98
    go_wp2
    refine bodyPost_ret (v := .agg #[.int .i64 0, .int .i64 0, .int .i64 0, .bool false, .int .i64 k, .string (bs x), .string (bs y), .string (bs z)]) (by simp [results, Tryz.results98, go_sem]) rfl ⟨by rw [HE.out], ?_⟩
    repeat (with_reducible (first | exact Below.refl _ _ | refine Below.setCell ?_ (by simp) _ | refine Below.alloc ?_ (by simp) _))
  have g0 : (k == 0) = false := beq_eq_false_iff_ne.2 h0
  by_cases h3 : k = 3
  · have hs : s = 1 := HS.out.trans ((if_neg h0).trans (if_pos h3))
    have hm := HN.out (by omega)
    have HE := Lib.hid (show V = .agg #[.int .i64 1, .int .i64 0, .int .i64 0, .bool false, .int .i64 k, .string (bs x), .string (bs y), .string (bs z)] by rw [HV.out, hs, hm]; rfl)
    have g3 : (k == 3) = true := beq_iff_eq.2 h3
    clear hs hm h0 h3 HO
    go_enter Tryz.func98, Tryz.ntmps98
    go_wp2
    refine bodyPost_ret (v := .agg #[.int .i64 1, .int .i64 0, .int .i64 0, .bool false, .int .i64 k, .string (bs x), .string (bs y), .string (bs z)]) (by simp [results, Tryz.results98, go_sem]) rfl ⟨by rw [HE.out], ?_⟩
    repeat (with_reducible (first | exact Below.refl _ _ | refine Below.setCell ?_ (by simp) _ | refine Below.alloc ?_ (by simp) _))
  have g3 : (k == 3) = false := beq_eq_false_iff_ne.2 h3
  by_cases h1 : k = 1
  · have hs : s = 2 := HS.out.trans ((if_neg h0).trans ((if_neg h3).trans (if_pos h1)))
    have hm := HN.out (by omega)
    have HE := Lib.hid (show V = .agg #[.int .i64 2, .int .i64 0, .int .i64 0, .bool false, .int .i64 k, .string (bs x), .string (bs y), .string (bs z)] by rw [HV.out, hs, hm]; rfl)
    have g1 : (k == 1) = true := beq_iff_eq.2 h1
    clear hs hm h0 h3 h1 HO
    go_enter Tryz.func98, Tryz.ntmps98
    go_wp2
    refine bodyPost_ret (v := .agg #[.int .i64 2, .int .i64 0, .int .i64 0, .bool false, .int .i64 k, .string (bs x), .string (bs y), .string (bs z)]) (by simp [results, Tryz.results98, go_sem]) rfl ⟨by rw [HE.out], ?_⟩
    repeat (with_reducible (first | exact Below.refl _ _ | refine Below.setCell ?_ (by simp) _ | refine Below.alloc ?_ (by simp) _))
  have g1 : (k == 1) = false := beq_eq_false_iff_ne.2 h1
  have HS2 := Lib.hid (HS.out.trans ((if_neg h0).trans ((if_neg h3).trans (if_neg h1))))
  clear h0 h3 h1 HS
  obtain ⟨⟨nv, ns, nd⟩, b⟩ := q
  have HR2 := Lib.hid (show r = .tuple #[.agg #[.int .i64 nv, .int .i64 ns, .bool nd], .int .i64 (Nm.errZ b)] from HR.out)
  clear HR
  cases b with
  | true =>
    have hs : s = 3 := HS2.out.trans (if_pos rfl)
    have hm := HI.out hs
    have HE := Lib.hid (show V = .agg #[.int .i64 3, .int .i64 nv, .int .i64 ns, .bool nd, .int .i64 k, .string (bs x), .string (bs y), .string (bs z)] by rw [HV.out, hs, hm])
    rw [show Nm.errZ true = 0 from rfl] at HR2
    obtain rfl := HR2.out
    clear HR2 hs hm HS2 HN HI HNO
    go_enter Tryz.func98, Tryz.ntmps98
    go_wp2_with fail
    refine (HO.out _ (by (repeat (with_reducible (first | exact HG.out | refine Nm.Good.alloc ?_ _))))).mono ?_
    rintro e w1 ⟨rfl, hb1⟩
    obtain ⟨hc, hf⟩ := bcell hb1
    have hz := two_size hb1
    have hz0 : w.heap.size < w1.heap.size := by omega
    have HB1 := Lib.hid (two_gone hb1)
    clear hb1
    go_wp2
    refine bodyPost_ret (v := .agg #[.int .i64 3, .int .i64 nv, .int .i64 ns, .bool nd, .int .i64 k, .string (bs x), .string (bs y), .string (bs z)]) (by simp [results, Tryz.results98, hc, hz, go_sem]) rfl ⟨by rw [HE.out], ?_⟩
    repeat (with_reducible (first | exact HB1.out | refine Below.setCell ?_ (by simp) _ | refine Below.alloc ?_ (by simp; omega) _))
  | false =>
    have hs : s = 4 := HS2.out.trans (if_neg (by simp))
    have hm := HN.out (by omega)
    have hq := HNO.out rfl
    simp only [Nm.noNum, Prod.mk.injEq, Nm.NumL.mk.injEq, and_true] at hq
    obtain ⟨rfl, rfl, rfl⟩ := hq
    have HE := Lib.hid (show V = .agg #[.int .i64 4, .int .i64 0, .int .i64 0, .bool false, .int .i64 k, .string (bs x), .string (bs y), .string (bs z)] by rw [HV.out, hs, hm]; rfl)
    rw [show Nm.errZ false = 2 from rfl] at HR2
    obtain rfl := HR2.out
    clear HR2 hs hm HS2 HN HI HNO
    go_enter Tryz.func98, Tryz.ntmps98
    go_wp2_with fail
    refine (HO.out _ (by (repeat (with_reducible (first | exact HG.out | refine Nm.Good.alloc ?_ _))))).mono ?_
    rintro e w1 ⟨rfl, hb1⟩
    obtain ⟨hc, hf⟩ := bcell hb1
    have hz := two_size hb1
    have hz0 : w.heap.size < w1.heap.size := by omega
    have HB1 := Lib.hid (two_gone hb1)
    clear hb1
    go_wp2
    refine bodyPost_ret (v := .agg #[.int .i64 4, .int .i64 0, .int .i64 0, .bool false, .int .i64 k, .string (bs x), .string (bs y), .string (bs z)]) (by simp [results, Tryz.results98, hc, hz, go_sem]) rfl ⟨by rw [HE.out], ?_⟩
    repeat (with_reducible (first | exact HB1.out | refine Below.setCell ?_ (by simp) _ | refine Below.alloc ?_ (by simp; omega) _))

end Go.Proofs.YtdnfaoanaehjhaaGreatDoor
