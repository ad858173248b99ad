/- The law's step: a call of a pool, and of the document's (written by gen/mkpolstep.py). -/
import Derived.Test.YtheefhogphlkiaaRPolDouble
import Derived.Test.YtheefhogphlkiaaPolDrop
import Derived.Test.YtheefhogphlkiaaLawPolNil
namespace Go.Proofs.Ytheefhogphlkiaa
open Go.RowKit

theorem apart_new {w : World} {B P : Nat} {v x x' : Value} {L : List MsgL} (hp : PoolT w B P v L) (hd : Apart x v) (hn : x'.ownBlock = x.ownBlock ∨ ∀ g, x'.ownBlock = some g → w.heap.size ≤ g) : Apart x' v := by
  intro g hg e
  rcases hn with h | h
  · rw [h] at hg; exact hd g hg e
  · have h1 := h g hg
    have h2 := (own_lt hp.own g e).2
    omega
/- a pool and a row of the same messages, apart -/
structure Both (w : World) (B P : Nat) (v x : Value) (L : List MsgL) : Prop where
  pool : PoolT w B P v L
  row : Own w B x L
  apart : Apart x v
theorem both_on {w w' : World} {B P : Nat} {v x : Value} {L : List MsgL} (h : Both w B P v x L) (hb : Below w.heap.size w w') : Both w' B P v x L := ⟨pool_on h.pool hb, own_on h.row hb, h.apart⟩
/- what the step leaves -/
def StepT (B P : Nat) (L' : List MsgL) (w : World) (e : Ending) (w' : World) : Prop :=
  ∃ x', e = .returned (.tuple #[x', .bool true]) ∧ ∃ v', Both w' B P v' x' L' ∧ Below B w w'
theorem step_end {w W2 W3 W4 : World} {B P : Nat} {v v' x' : Value} {L L' : List MsgL} (hp : PoolT W2 B P v L) (hx : Own W2 B x' L') (hd : Apart x' v) (hb : Below B w W2) (hp3 : PoolT W3 B P v' L') (hm : Moved W2 W3 P v v') (hb4 : Below W3.heap.size W3 W4) (hB : B ≤ w.heap.size) : Both W4 B P v' x' L' ∧ Below B w W4 := by
  obtain ⟨h1, h2⟩ := own_moved hx hd hp hm
  have h3 := moved_below hp hm
  exact ⟨⟨pool_on hp3 hb4, own_on h1 hb4, h2⟩, fb2 (hb.trans h3) hb4 hB⟩

set_option maxRecDepth 100000 in
set_option maxHeartbeats 4000000 in
theorem step_calls (B P : Nat) (v x : Value) (L : List MsgL) (a : ActL) (w : World) (h : Both w B P v x L) (hB : B ≤ w.heap.size) :
    Calls Try.prog 9 #[.pointer (some ⟨P, 0, none⟩), x, .agg #[.int .i64 a.kind, .int .i64 a.n, .int .i64 a.m.f, .int .i64 a.m.t, .string a.m.b]] w (StepT B P (actL L a) w) := by
  obtain ⟨X, hX⟩ : ∃ X, w.heap.size = X := ⟨_, rfl⟩
  obtain ⟨W1, hW1⟩ : ∃ W1, w.alloc (.cells #[.int .i64 a.kind, .int .i64 a.n, .int .i64 a.m.f, .int .i64 a.m.t, .string a.m.b] 31) = W1 := ⟨_, rfl⟩
  have HB1 := Lib.hid (show Below w.heap.size w W1 by rw [← hW1]; exact box_below _ _)
  have HA1 := Lib.hid (show Act5 W1 X 0 a by rw [← hW1, ← hX]; exact act5_new w a)
  have HH1 := Lib.hid (both_on h HB1.out)
  have HXL := Lib.hid (show X < W1.heap.size by rw [← hW1, ← hX]; simp)
  have HXB := Lib.hid (show B ≤ X by omega)
  have HBW := Lib.hid hB
  have HB1s := Lib.hid (show B ≤ W1.heap.size from Nat.le_trans hB HB1.out.size)
  have hlen := h.pool.ok.2
  have HW1 := Lib.hid hW1
  have HX := Lib.hid hX
  have HOK := Lib.hid h.pool.ok
  obtain ⟨c0, c1, c2, c3, c4⟩ := HA1.out
  simp only [Nat.zero_add] at c1 c2 c3 c4
  clear hX hW1 h hB
  by_cases h0 : a.kind = 0
  · have e0 : actL L a = sendL L a.m := by unfold actL; rw [if_pos h0]
    rw [e0]
    have HR := Lib.hid (rSend_calls B x L a.m W1 HH1.out.row HB1s.out hlen)
    have HS := Lib.hid (fun v W (hW : PoolT W B P v L) => send_calls B P v L a.m W hW)
    generalize sendE L a.m = E at HR HS
    generalize sendL L a.m = R at HR HS ⊢
    have q0 : (a.kind == 0) = true := beq_iff_eq.2 h0
    clear e0 h0 hlen
    go_enter Try.func9, Try.ntmps9
    go_wp2_with fail
    rw [HW1.out, HX.out]
    refine HR.out.mono ?_
    rintro e W2 ⟨x', rfl, hn⟩
    have HN2 := Lib.hid hn
    have HB2 := Lib.hid (fb2 HB1.out hn.2.2 (Nat.le_refl _))
    have HA2 := Lib.hid (HA1.out.on hn.2.2 HXL.out)
    have HP2 := Lib.hid (pool_on HH1.out.pool hn.2.2)
    have HD2 := Lib.hid (apart_new HH1.out.pool HH1.out.apart hn.2.1)
    have HXL2 := Lib.hid (Nat.lt_of_lt_of_le HXL.out hn.2.2.size)
    clear hn
    clear c0 c1 c2 c3 c4
    obtain ⟨c0, c1, c2, c3, c4⟩ := HA2.out
    simp only [Nat.zero_add] at c1 c2 c3 c4
    go_wp2_with fail
    refine (HS.out _ _ HP2.out).mono ?_
    rintro e W3 ⟨rfl, v', hp, hm⟩
    have HE := Lib.hid (step_end HP2.out HN2.out.1 HD2.out (HB2.out.mono HBW.out) hp hm (Below.refl _ _) HBW.out)
    clear hp hm c0 c1 c2 c3 c4
    go_wp2
    go_ret2
    exact ⟨x', rfl, v', HE.out.1, HE.out.2⟩
  · by_cases h1 : a.kind = 1
    · have e0 : actL L a = takeL L a.n := by unfold actL; rw [if_neg h0, if_pos (.inl h1)]
      rw [e0]
      have HR := Lib.hid (rTake_calls B x L a.n W1 HH1.out.row HB1s.out hlen)
      have HS := Lib.hid (fun v W (hW : PoolT W B P v L) => take_calls B P v L a.n W hW)
      generalize takeE L a.n = E at HR HS
      generalize takeL L a.n = R at HR HS ⊢
      generalize takeM L a.n = m at HR HS
      have heq := fun W => eql_msg m m W
      rw [meq_self] at heq
      have q0 : (a.kind == 0) = false := beq_eq_false_iff_ne.2 h0
      have q1 : (a.kind == 1) = true := beq_iff_eq.2 h1
      clear e0 h0 h1 hlen
      go_enter Try.func9, Try.ntmps9
      go_wp2_with fail
      rw [HW1.out, HX.out]
      refine HR.out.mono ?_
      rintro e W2 ⟨x', rfl, hn⟩
      have HN2 := Lib.hid hn
      have HB2 := Lib.hid (fb2 HB1.out hn.2.2 (Nat.le_refl _))
      have HA2 := Lib.hid (HA1.out.on hn.2.2 HXL.out)
      have HP2 := Lib.hid (pool_on HH1.out.pool hn.2.2)
      have HD2 := Lib.hid (apart_new HH1.out.pool HH1.out.apart hn.2.1)
      have HXL2 := Lib.hid (Nat.lt_of_lt_of_le HXL.out hn.2.2.size)
      clear hn
      clear c0 c1 c2 c3 c4
      obtain ⟨c0, c1, c2, c3, c4⟩ := HA2.out
      simp only [Nat.zero_add] at c1 c2 c3 c4
      obtain ⟨Y, hY⟩ : ∃ Y, W2.heap.size = Y := ⟨_, rfl⟩
      obtain ⟨W3, hW3⟩ : ∃ W3, W2.alloc (.cells #[.int .i64 m.f, .int .i64 m.t, .string m.b] 29) = W3 := ⟨_, rfl⟩
      have hbx : Below W2.heap.size W2 W3 := by rw [← hW3]; exact box_below _ _
      have HB3 := Lib.hid (fb2 HB2.out hbx (Nat.le_refl _))
      have HA3 := Lib.hid (HA2.out.on hbx HXL2.out)
      have HP3 := Lib.hid (pool_on HP2.out hbx)
      have HO3 := Lib.hid (own_on HN2.out.1 hbx)
      have HK3 := Lib.hid (show Blk W3 Y 29 #[.int .i64 m.f, .int .i64 m.t, .string m.b] by rw [← hW3, ← hY]; exact blk_new _ _ _)
      have HYB := Lib.hid (show v.ownBlock ≠ some Y ∧ Y ≠ P from ⟨fun e => by have := (own_lt HP2.out.own Y e).2; omega, by have := blk_lt HP2.out.blk; omega⟩)
      have HW3 := Lib.hid hW3
      have HY := Lib.hid hY
      have hX2 := HXL2.out
      clear hW3 hY hbx
      go_wp2_with fail
      rw [HW3.out, HY.out]
      refine (HS.out _ _ HP3.out).mono ?_
      rintro e W4 ⟨rfl, v', hp, hm⟩
      have HK4 := Lib.hid (show Blk W4 Y 29 #[.int .i64 m.f, .int .i64 m.t, .string m.b] from (hm.block Y (blk_lt HK3.out) HYB.out.2 HYB.out.1).trans HK3.out)
      have HE := Lib.hid (step_end HP3.out HO3.out HD2.out (HB3.out.mono HBW.out) hp hm (box_below W4 (.cells #[.int .i64 m.f, .int .i64 m.t, .string m.b] 29)) HBW.out)
      have d0 : W4.cell? ⟨Y, 0, none⟩ = some (.int .i64 m.f) := (blk_cell HK4.out 0).trans rfl
      have d1 : W4.cell? ⟨Y, 1, none⟩ = some (.int .i64 m.t) := (blk_cell HK4.out 1).trans rfl
      have d2 : W4.cell? ⟨Y, 2, none⟩ = some (.string m.b) := (blk_cell HK4.out 2).trans rfl
      have n1 := blk_lt HK4.out
      have n2 : ¬ Y = W4.heap.size := by omega
      have n3 : ¬ W4.heap.size = Y := by omega
      clear hp hm c0 c1 c2 c3 c4 hX2
      go_wp2
      go_ret2
      exact ⟨x', rfl, v', HE.out.1, HE.out.2⟩
    · by_cases h2 : a.kind = 2
      · have e0 : actL L a = takeL L a.n := by unfold actL; rw [if_neg h0, if_pos (.inr h2)]
        rw [e0]
        have HR := Lib.hid (rTake_calls B x L a.n W1 HH1.out.row HB1s.out hlen)
        have HS := Lib.hid (fun v W (hW : PoolT W B P v L) => drop_calls B P v L a.n W hW)
        generalize takeE L a.n = E at HR HS
        generalize takeL L a.n = R at HR HS ⊢
        generalize takeM L a.n = m at HR
        have q0 : (a.kind == 0) = false := beq_eq_false_iff_ne.2 h0
        have q1 : (a.kind == 1) = false := beq_eq_false_iff_ne.2 h1
        have q2 : (a.kind == 2) = true := beq_iff_eq.2 h2
        clear e0 h0 h1 h2 hlen
        go_enter Try.func9, Try.ntmps9
        go_wp2_with fail
        rw [HW1.out, HX.out]
        refine HR.out.mono ?_
        rintro e W2 ⟨x', rfl, hn⟩
        have HN2 := Lib.hid hn
        have HB2 := Lib.hid (fb2 HB1.out hn.2.2 (Nat.le_refl _))
        have HA2 := Lib.hid (HA1.out.on hn.2.2 HXL.out)
        have HP2 := Lib.hid (pool_on HH1.out.pool hn.2.2)
        have HD2 := Lib.hid (apart_new HH1.out.pool HH1.out.apart hn.2.1)
        have HXL2 := Lib.hid (Nat.lt_of_lt_of_le HXL.out hn.2.2.size)
        clear hn
        clear c0 c1 c2 c3 c4
        obtain ⟨c0, c1, c2, c3, c4⟩ := HA2.out
        simp only [Nat.zero_add] at c1 c2 c3 c4
        obtain ⟨W3, hW3⟩ : ∃ W3, W2.alloc (.cells #[.int .i64 m.f, .int .i64 m.t, .string m.b] 29) = W3 := ⟨_, rfl⟩
        have hbx : Below W2.heap.size W2 W3 := by rw [← hW3]; exact box_below _ _
        have HB3 := Lib.hid (fb2 HB2.out hbx (Nat.le_refl _))
        have HP3 := Lib.hid (pool_on HP2.out hbx)
        have HO3 := Lib.hid (own_on HN2.out.1 hbx)
        have HW3 := Lib.hid hW3
        have hX2 := HXL2.out
        clear hW3 hbx
        go_wp2_with fail
        rw [HW3.out]
        refine (HS.out _ _ HP3.out).mono ?_
        rintro e W4 ⟨rfl, v', hp, hm⟩
        have HE := Lib.hid (step_end HP3.out HO3.out HD2.out (HB3.out.mono HBW.out) hp hm (Below.refl _ _) HBW.out)
        clear hp hm c0 c1 c2 c3 c4 hX2
        go_wp2
        go_ret2
        exact ⟨x', rfl, v', HE.out.1, HE.out.2⟩
      · have e0 : actL L a = dblL L a.n := by unfold actL; rw [if_neg h0, if_neg (fun e => e.elim h1 h2)]
        rw [e0]
        have HR := Lib.hid (rDouble_calls B x L a.n W1 HH1.out.row HB1s.out HOK.out)
        have HS := Lib.hid (fun v W (hW : PoolT W B P v L) => double_calls B P v L a.n W hW)
        generalize dblE L a.n = E at HR HS
        generalize dblL L a.n = R at HR HS ⊢
        have q0 : (a.kind == 0) = false := beq_eq_false_iff_ne.2 h0
        have q1 : (a.kind == 1) = false := beq_eq_false_iff_ne.2 h1
        have q2 : (a.kind == 2) = false := beq_eq_false_iff_ne.2 h2
        clear e0 h0 h1 h2 hlen
        go_enter Try.func9, Try.ntmps9
        go_wp2_with fail
        rw [HW1.out, HX.out]
        refine HR.out.mono ?_
        rintro e W2 ⟨x', rfl, hn⟩
        have HN2 := Lib.hid hn
        have HB2 := Lib.hid (fb2 HB1.out hn.2.2 (Nat.le_refl _))
        have HA2 := Lib.hid (HA1.out.on hn.2.2 HXL.out)
        have HP2 := Lib.hid (pool_on HH1.out.pool hn.2.2)
        have HD2 := Lib.hid (apart_new HH1.out.pool HH1.out.apart hn.2.1)
        have HXL2 := Lib.hid (Nat.lt_of_lt_of_le HXL.out hn.2.2.size)
        clear hn
        clear c0 c1 c2 c3 c4
        obtain ⟨c0, c1, c2, c3, c4⟩ := HA2.out
        simp only [Nat.zero_add] at c1 c2 c3 c4
        go_wp2_with fail
        refine (HS.out _ _ HP2.out).mono ?_
        rintro e W3 ⟨rfl, v', hp, hm⟩
        have HE := Lib.hid (step_end HP2.out HN2.out.1 HD2.out (HB2.out.mono HBW.out) hp hm (Below.refl _ _) HBW.out)
        clear hp hm c0 c1 c2 c3 c4
        go_wp2
        go_ret2
        exact ⟨x', rfl, v', HE.out.1, HE.out.2⟩

end Go.Proofs.Ytheefhogphlkiaa
