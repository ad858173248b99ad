/- Of any two triples one is ahead, or they are the same; what is ahead of what is ahead of a third one is ahead of it: the walk of the statement's function. -/
import Derived.Test.YthdhoaihmlodjaaRefTCompare
import Derived.Test.YthdhoaihmlodjaaTripAwake
namespace Go.Proofs.Ythdhoaihmlodjaa
open Go.RowKit

/- the order of triples, in plain words -/
theorem tcmp_range (a b : TermL) : a.cmp b = -1 ∨ a.cmp b = 0 ∨ a.cmp b = 1 := tc_range _ _ _ _ _ _ _ _
theorem tcmp_anti (a b : TermL) : b.cmp a = - a.cmp b := tc_anti _ _ _ _ _ _ _ _
theorem tcmp_trans (a b c : TermL) (h : a.cmp b ≤ 0) (g : b.cmp c ≤ 0) : a.cmp c ≤ 0 := tc_trans _ _ _ _ _ _ _ _ _ _ _ _ h g
theorem tcmp_zero {a b : TermL} (h : a.cmp b = 0) : a = b := by
  obtain ⟨k, x, y, z⟩ := a
  obtain ⟨k', x', y', z'⟩ := b
  obtain ⟨rfl, rfl, rfl, rfl⟩ := (tc_zero _ _ _ _ _ _ _ _).1 h
  rfl
theorem tr_range (t u : TripL) : tripCmp t u = -1 ∨ tripCmp t u = 0 ∨ tripCmp t u = 1 := by
  have h1 := tcmp_range t.s u.s; have h2 := tcmp_range t.p u.p; have h3 := tcmp_range t.o u.o
  unfold tripCmp
  repeat' split
  all_goals first | omega | assumption
theorem tr_anti (t u : TripL) : tripCmp u t = - tripCmp t u := by
  have h1 := tcmp_anti t.s u.s; have h2 := tcmp_anti t.p u.p; have h3 := tcmp_anti t.o u.o
  unfold tripCmp
  repeat' split
  all_goals omega
theorem tr_zero {t u : TripL} (h : tripCmp t u = 0) : t = u := by
  obtain ⟨a, b, c⟩ := t
  obtain ⟨a', b', c'⟩ := u
  unfold tripCmp at h
  dsimp only at h
  split at h
  · contradiction
  · rename_i h1
    split at h
    · contradiction
    · rename_i h2
      rw [tcmp_zero (by omega : a.cmp a' = 0), tcmp_zero (by omega : b.cmp b' = 0), tcmp_zero h]
theorem tr_trans (t u v : TripL) (h : tripCmp t u ≤ 0) (g : tripCmp u v ≤ 0) : tripCmp t v ≤ 0 := by
  obtain ⟨a, b, c⟩ := t
  obtain ⟨a', b', c'⟩ := u
  obtain ⟨a'', b'', c''⟩ := v
  have r1 := tcmp_range a a'; have r2 := tcmp_range a' a''; have r3 := tcmp_range a a''
  have s1 := tcmp_range b b'; have s2 := tcmp_range b' b''; have s3 := tcmp_range b b''
  have k1 := tcmp_trans a a' a''; have k2 := tcmp_trans b b' b''; have k3 := tcmp_trans c c' c''
  have z1 : a.cmp a'' = 0 → a.cmp a' ≤ 0 → a'.cmp a'' ≤ 0 → a.cmp a' = 0 ∧ a'.cmp a'' = 0 := by
    intro h0 h1 h2
    have e := tcmp_zero h0
    subst e
    have := tcmp_anti a a'
    omega
  have z2 : b.cmp b'' = 0 → b.cmp b' ≤ 0 → b'.cmp b'' ≤ 0 → b.cmp b' = 0 ∧ b'.cmp b'' = 0 := by
    intro h0 h1 h2
    have e := tcmp_zero h0
    subst e
    have := tcmp_anti b b'
    omega
  have e1 : a.cmp a' = 0 → a.cmp a'' = a'.cmp a'' := fun h0 => by rw [tcmp_zero h0]
  have e2 : a'.cmp a'' = 0 → a.cmp a'' = a.cmp a' := fun h0 => by rw [tcmp_zero h0]
  have f1 : b.cmp b' = 0 → b.cmp b'' = b'.cmp b'' := fun h0 => by rw [tcmp_zero h0]
  have f2 : b'.cmp b'' = 0 → b.cmp b'' = b.cmp b' := fun h0 => by rw [tcmp_zero h0]
  unfold tripCmp at *
  dsimp only at *
  repeat' split at h
  all_goals repeat' split at g
  all_goals repeat' split
  all_goals first | omega | (apply k1 <;> omega) | (apply k2 <;> omega) | (apply k3 <;> omega)

theorem teqs_of {t u : TripL} : teqs t u = decide (tripCmp t u = 0) := by
  by_cases h : tripCmp t u = 0
  · have e := tr_zero h
    subst e
    rw [decide_eq_true h]
    unfold teqs; rw [teq_self, teq_self, teq_self]; rfl
  · rw [decide_eq_false h]
    cases hq : teqs t u with
    | false => rfl
    | true => exact absurd (teqs_cmp hq) h

theorem fields_triple : (Try.prog.fieldsOf 25).toList = [{ name := "S", type := 23, offset := 0, embedded := false, tag := "", pkgPath := "", byteOffset := 0 }, { name := "P", type := 23, offset := 4, embedded := false, tag := "", pkgPath := "", byteOffset := 56 }, { name := "O", type := 23, offset := 8, embedded := false, tag := "", pkgPath := "", byteOffset := 112 }] := by kernel_rfl
theorem eq_trip_in (d : Nat) (t u : TripL) (w : World) : (Op.equalIn (d + 3) 25 t.v u.v).run Try.prog w = .ok (teqs t u) w := by
  have h0 := eq_term d t.s u.s w
  have h1 := eq_term d t.p u.p w
  have h2 := eq_term d t.o u.o w
  have p0 : ∀ x : TripL, (part 23 (cells12 x) 0).run Try.prog w = .ok x.s.v w := fun x => run_part_term _ _ _
  have p1 : ∀ x : TripL, (part 23 (cells12 x) 4).run Try.prog w = .ok x.p.v w := fun x => run_part_term _ _ _
  have p2 : ∀ x : TripL, (part 23 (cells12 x) 8).run Try.prog w = .ok x.o.v w := fun x => run_part_term _ _ _
  rw [show t.v = .agg (cells12 t) from rfl, show u.v = .agg (cells12 u) from rfl, show d + 3 = d + 2 + 1 from rfl]
  rw [run_equalIn_agg w (d + 2) 25 _ _ Try.underlying25 (by kernel_rfl), fields_triple]
  generalize d + 2 = D at *
  unfold teqs
  simp only [Op.eqFields, Sem.run_ite, Sem.run_bind, p0, p1, p2, Result.andThen_ok, h0, h1, h2, Sem.run_pure]
  cases teq t.s u.s <;> cases teq t.p u.p <;> cases teq t.o u.o <;> simp
theorem eq_trip (t u : TripL) (w : World) : (binOp .eql 25 t.v u.v).run Try.prog w = .ok (.bool (teqs t u)) w := by
  unfold TripL.v
  rw [run_eql_struct]
  have := eq_trip_in 9997 t u w
  unfold TripL.v at this
  rw [this]; rfl

theorem three_below {w w1 : World} {o o2 o3 : Obj} (h : Below (((w.alloc o).alloc o2).alloc o3).heap.size (((w.alloc o).alloc o2).alloc o3) w1) : Below w.heap.size w w1 :=
  ((two_alloc w o o2).alloc (by simp; omega) _).trans (h.mono (by simp; omega))

set_option maxRecDepth 100000 in
set_option maxHeartbeats 8000000 in
theorem triplesOrders_behind (t u v : TripL) (ht : t.ok) (hu : u.ok) (w : World) (hN : tripCmp t u = 1) :
    Calls Try.prog 5 #[t.v, u.v, v.v] w fun e w' => e = .returned (.bool true) ∧ Below w.heap.size w w' := by
  have hq : teqs t u = false := by rw [teqs_of, hN] <;> rfl
  have HNEG := Lib.hid (show tripCmp u t = -1 by rw [tr_anti, hN] <;> rfl)
  have heq := fun W => eq_trip t u W
  rw [hq] at heq
  clear hq
  have HN := Lib.hid hN
  have HOK := Lib.hid (show t.ok ∧ u.ok from ⟨ht, hu⟩)
  clear hN ht hu
  obtain ⟨⟨ak1, ax1, ay1, az1⟩, ⟨bk1, bx1, by1, bz1⟩, ⟨ck1, cx1, cy1, cz1⟩⟩ := t
  obtain ⟨⟨ak2, ax2, ay2, az2⟩, ⟨bk2, bx2, by2, bz2⟩, ⟨ck2, cx2, cy2, cz2⟩⟩ := u
  obtain ⟨⟨ak3, ax3, ay3, az3⟩, ⟨bk3, bx3, by3, bz3⟩, ⟨ck3, cx3, cy3, cz3⟩⟩ := v
  simp only [TripL.v] at heq ⊢
  go_enter Try.func5, Try.ntmps5
  have hb : Below (((w.alloc (.cells #[.int .i64 ak1, .string (bs ax1), .string (bs ay1), .string (bs az1), .int .i64 bk1, .string (bs bx1), .string (bs by1), .string (bs bz1), .int .i64 ck1, .string (bs cx1), .string (bs cy1), .string (bs cz1)] 25)).alloc (.cells #[.int .i64 ak2, .string (bs ax2), .string (bs ay2), .string (bs az2), .int .i64 bk2, .string (bs bx2), .string (bs by2), .string (bs bz2), .int .i64 ck2, .string (bs cx2), .string (bs cy2), .string (bs cz2)] 25)).alloc (.cells #[.int .i64 ak3, .string (bs ax3), .string (bs ay3), .string (bs az3), .int .i64 bk3, .string (bs bx3), .string (bs by3), .string (bs bz3), .int .i64 ck3, .string (bs cx3), .string (bs cy3), .string (bs cz3)] 25)).heap.size (((w.alloc (.cells #[.int .i64 ak1, .string (bs ax1), .string (bs ay1), .string (bs az1), .int .i64 bk1, .string (bs bx1), .string (bs by1), .string (bs bz1), .int .i64 ck1, .string (bs cx1), .string (bs cy1), .string (bs cz1)] 25)).alloc (.cells #[.int .i64 ak2, .string (bs ax2), .string (bs ay2), .string (bs az2), .int .i64 bk2, .string (bs bx2), .string (bs by2), .string (bs bz2), .int .i64 ck2, .string (bs cx2), .string (bs cy2), .string (bs cz2)] 25)).alloc (.cells #[.int .i64 ak3, .string (bs ax3), .string (bs ay3), .string (bs az3), .int .i64 bk3, .string (bs bx3), .string (bs by3), .string (bs bz3), .int .i64 ck3, .string (bs cx3), .string (bs cy3), .string (bs cz3)] 25)) (((w.alloc (.cells #[.int .i64 ak1, .string (bs ax1), .string (bs ay1), .string (bs az1), .int .i64 bk1, .string (bs bx1), .string (bs by1), .string (bs bz1), .int .i64 ck1, .string (bs cx1), .string (bs cy1), .string (bs cz1)] 25)).alloc (.cells #[.int .i64 ak2, .string (bs ax2), .string (bs ay2), .string (bs az2), .int .i64 bk2, .string (bs bx2), .string (bs by2), .string (bs bz2), .int .i64 ck2, .string (bs cx2), .string (bs cy2), .string (bs cz2)] 25)).alloc (.cells #[.int .i64 ak3, .string (bs ax3), .string (bs ay3), .string (bs az3), .int .i64 bk3, .string (bs bx3), .string (bs by3), .string (bs bz3), .int .i64 ck3, .string (bs cx3), .string (bs cy3), .string (bs cz3)] 25)) := Below.refl _ _
  go_wp2_with fail
  refine (tCompare_calls ⟨⟨ak1, ax1, ay1, az1⟩, ⟨bk1, bx1, by1, bz1⟩, ⟨ck1, cx1, cy1, cz1⟩⟩ ⟨⟨ak2, ax2, ay2, az2⟩, ⟨bk2, bx2, by2, bz2⟩, ⟨ck2, cx2, cy2, cz2⟩⟩ _).mono ?_
  rintro e w1 ⟨rfl, hbv⟩
  rw [HN.out]
  replace hb := first_step hb hbv
  clear hbv
  (try clear hc hf hz)
  obtain ⟨hc, hf⟩ := bcell hb
  have hz : w.heap.size + 2 < w1.heap.size := by have := hb.size; simp at this; omega
  go_wp2_with fail
  refine (rtCompare_calls ⟨⟨ak1, ax1, ay1, az1⟩, ⟨bk1, bx1, by1, bz1⟩, ⟨ck1, cx1, cy1, cz1⟩⟩ ⟨⟨ak2, ax2, ay2, az2⟩, ⟨bk2, bx2, by2, bz2⟩, ⟨ck2, cx2, cy2, cz2⟩⟩ _ HOK.out.1 HOK.out.2).mono ?_
  rintro e w2 ⟨rfl, hbv⟩
  rw [HN.out]
  replace hb := first_step hb hbv
  clear hbv
  (try clear hc hf hz)
  obtain ⟨hc, hf⟩ := bcell hb
  have hz : w.heap.size + 2 < w2.heap.size := by have := hb.size; simp at this; omega
  go_wp2_with fail
  refine (tCompare_calls ⟨⟨ak2, ax2, ay2, az2⟩, ⟨bk2, bx2, by2, bz2⟩, ⟨ck2, cx2, cy2, cz2⟩⟩ ⟨⟨ak1, ax1, ay1, az1⟩, ⟨bk1, bx1, by1, bz1⟩, ⟨ck1, cx1, cy1, cz1⟩⟩ _).mono ?_
  rintro e w3 ⟨rfl, hbv⟩
  rw [HNEG.out]
  replace hb := first_step hb hbv
  clear hbv
  (try clear hc hf hz)
  obtain ⟨hc, hf⟩ := bcell hb
  have hz : w.heap.size + 2 < w3.heap.size := by have := hb.size; simp at this; omega
  go_wp2_with fail
  refine (awake_calls _).mono ?_
  rintro e wa ⟨rfl, hbv⟩
  replace hb := first_step hb hbv
  go_wp2
  go_ret
  exact ⟨by simp, three_below hb⟩

set_option maxRecDepth 100000 in
set_option maxHeartbeats 8000000 in
theorem triplesOrders_ahead (t u v : TripL) (ht : t.ok) (hu : u.ok) (w : World) (hN : tripCmp t u = -1) (hM : tripCmp u v = 1) :
    Calls Try.prog 5 #[t.v, u.v, v.v] w fun e w' => e = .returned (.bool true) ∧ Below w.heap.size w w' := by
  have hq : teqs t u = false := by rw [teqs_of, hN] <;> rfl
  have HNEG := Lib.hid (show tripCmp u t = 1 by rw [tr_anti, hN] <;> rfl)
  have heq := fun W => eq_trip t u W
  rw [hq] at heq
  clear hq
  have HN := Lib.hid hN
  have HM := Lib.hid hM
  have HOK := Lib.hid (show t.ok ∧ u.ok from ⟨ht, hu⟩)
  clear hN ht hu hM
  obtain ⟨⟨ak1, ax1, ay1, az1⟩, ⟨bk1, bx1, by1, bz1⟩, ⟨ck1, cx1, cy1, cz1⟩⟩ := t
  obtain ⟨⟨ak2, ax2, ay2, az2⟩, ⟨bk2, bx2, by2, bz2⟩, ⟨ck2, cx2, cy2, cz2⟩⟩ := u
  obtain ⟨⟨ak3, ax3, ay3, az3⟩, ⟨bk3, bx3, by3, bz3⟩, ⟨ck3, cx3, cy3, cz3⟩⟩ := v
  simp only [TripL.v] at heq ⊢
  go_enter Try.func5, Try.ntmps5
  have hb : Below (((w.alloc (.cells #[.int .i64 ak1, .string (bs ax1), .string (bs ay1), .string (bs az1), .int .i64 bk1, .string (bs bx1), .string (bs by1), .string (bs bz1), .int .i64 ck1, .string (bs cx1), .string (bs cy1), .string (bs cz1)] 25)).alloc (.cells #[.int .i64 ak2, .string (bs ax2), .string (bs ay2), .string (bs az2), .int .i64 bk2, .string (bs bx2), .string (bs by2), .string (bs bz2), .int .i64 ck2, .string (bs cx2), .string (bs cy2), .string (bs cz2)] 25)).alloc (.cells #[.int .i64 ak3, .string (bs ax3), .string (bs ay3), .string (bs az3), .int .i64 bk3, .string (bs bx3), .string (bs by3), .string (bs bz3), .int .i64 ck3, .string (bs cx3), .string (bs cy3), .string (bs cz3)] 25)).heap.size (((w.alloc (.cells #[.int .i64 ak1, .string (bs ax1), .string (bs ay1), .string (bs az1), .int .i64 bk1, .string (bs bx1), .string (bs by1), .string (bs bz1), .int .i64 ck1, .string (bs cx1), .string (bs cy1), .string (bs cz1)] 25)).alloc (.cells #[.int .i64 ak2, .string (bs ax2), .string (bs ay2), .string (bs az2), .int .i64 bk2, .string (bs bx2), .string (bs by2), .string (bs bz2), .int .i64 ck2, .string (bs cx2), .string (bs cy2), .string (bs cz2)] 25)).alloc (.cells #[.int .i64 ak3, .string (bs ax3), .string (bs ay3), .string (bs az3), .int .i64 bk3, .string (bs bx3), .string (bs by3), .string (bs bz3), .int .i64 ck3, .string (bs cx3), .string (bs cy3), .string (bs cz3)] 25)) (((w.alloc (.cells #[.int .i64 ak1, .string (bs ax1), .string (bs ay1), .string (bs az1), .int .i64 bk1, .string (bs bx1), .string (bs by1), .string (bs bz1), .int .i64 ck1, .string (bs cx1), .string (bs cy1), .string (bs cz1)] 25)).alloc (.cells #[.int .i64 ak2, .string (bs ax2), .string (bs ay2), .string (bs az2), .int .i64 bk2, .string (bs bx2), .string (bs by2), .string (bs bz2), .int .i64 ck2, .string (bs cx2), .string (bs cy2), .string (bs cz2)] 25)).alloc (.cells #[.int .i64 ak3, .string (bs ax3), .string (bs ay3), .string (bs az3), .int .i64 bk3, .string (bs bx3), .string (bs by3), .string (bs bz3), .int .i64 ck3, .string (bs cx3), .string (bs cy3), .string (bs cz3)] 25)) := Below.refl _ _
  go_wp2_with fail
  refine (tCompare_calls ⟨⟨ak1, ax1, ay1, az1⟩, ⟨bk1, bx1, by1, bz1⟩, ⟨ck1, cx1, cy1, cz1⟩⟩ ⟨⟨ak2, ax2, ay2, az2⟩, ⟨bk2, bx2, by2, bz2⟩, ⟨ck2, cx2, cy2, cz2⟩⟩ _).mono ?_
  rintro e w5 ⟨rfl, hbv⟩
  rw [HN.out]
  replace hb := first_step hb hbv
  clear hbv
  (try clear hc hf hz)
  obtain ⟨hc, hf⟩ := bcell hb
  have hz : w.heap.size + 2 < w5.heap.size := by have := hb.size; simp at this; omega
  go_wp2_with fail
  refine (rtCompare_calls ⟨⟨ak1, ax1, ay1, az1⟩, ⟨bk1, bx1, by1, bz1⟩, ⟨ck1, cx1, cy1, cz1⟩⟩ ⟨⟨ak2, ax2, ay2, az2⟩, ⟨bk2, bx2, by2, bz2⟩, ⟨ck2, cx2, cy2, cz2⟩⟩ _ HOK.out.1 HOK.out.2).mono ?_
  rintro e w6 ⟨rfl, hbv⟩
  rw [HN.out]
  replace hb := first_step hb hbv
  clear hbv
  (try clear hc hf hz)
  obtain ⟨hc, hf⟩ := bcell hb
  have hz : w.heap.size + 2 < w6.heap.size := by have := hb.size; simp at this; omega
  go_wp2_with fail
  refine (tCompare_calls ⟨⟨ak2, ax2, ay2, az2⟩, ⟨bk2, bx2, by2, bz2⟩, ⟨ck2, cx2, cy2, cz2⟩⟩ ⟨⟨ak1, ax1, ay1, az1⟩, ⟨bk1, bx1, by1, bz1⟩, ⟨ck1, cx1, cy1, cz1⟩⟩ _).mono ?_
  rintro e w7 ⟨rfl, hbv⟩
  rw [HNEG.out]
  replace hb := first_step hb hbv
  clear hbv
  (try clear hc hf hz)
  obtain ⟨hc, hf⟩ := bcell hb
  have hz : w.heap.size + 2 < w7.heap.size := by have := hb.size; simp at this; omega
  go_wp2_with fail
  refine (tCompare_calls ⟨⟨ak2, ax2, ay2, az2⟩, ⟨bk2, bx2, by2, bz2⟩, ⟨ck2, cx2, cy2, cz2⟩⟩ ⟨⟨ak3, ax3, ay3, az3⟩, ⟨bk3, bx3, by3, bz3⟩, ⟨ck3, cx3, cy3, cz3⟩⟩ _).mono ?_
  rintro e w8 ⟨rfl, hbv⟩
  rw [HM.out]
  replace hb := first_step hb hbv
  clear hbv
  (try clear hc hf hz)
  obtain ⟨hc, hf⟩ := bcell hb
  have hz : w.heap.size + 2 < w8.heap.size := by have := hb.size; simp at this; omega
  go_wp2_with fail
  refine (awake_calls _).mono ?_
  rintro e wa ⟨rfl, hbv⟩
  replace hb := first_step hb hbv
  go_wp2
  go_ret
  exact ⟨by simp, three_below hb⟩

set_option maxRecDepth 100000 in
set_option maxHeartbeats 8000000 in
theorem triplesOrders_ahead2 (t u v : TripL) (ht : t.ok) (hu : u.ok) (w : World) (hN : tripCmp t u = -1) (m : Int) (hM : tripCmp u v = m) (hm : m ≤ 0) (l : Int) (hL : tripCmp t v = l) (hl : l ≤ 0) :
    Calls Try.prog 5 #[t.v, u.v, v.v] w fun e w' => e = .returned (.bool true) ∧ Below w.heap.size w w' := by
  have hq : teqs t u = false := by rw [teqs_of, hN] <;> rfl
  have HNEG := Lib.hid (show tripCmp u t = 1 by rw [tr_anti, hN] <;> rfl)
  have heq := fun W => eq_trip t u W
  rw [hq] at heq
  clear hq
  have HN := Lib.hid hN
  have HM := Lib.hid hM
  have HL := Lib.hid hL
  clear hL
  have HOK := Lib.hid (show t.ok ∧ u.ok from ⟨ht, hu⟩)
  clear hN ht hu hM
  obtain ⟨⟨ak1, ax1, ay1, az1⟩, ⟨bk1, bx1, by1, bz1⟩, ⟨ck1, cx1, cy1, cz1⟩⟩ := t
  obtain ⟨⟨ak2, ax2, ay2, az2⟩, ⟨bk2, bx2, by2, bz2⟩, ⟨ck2, cx2, cy2, cz2⟩⟩ := u
  obtain ⟨⟨ak3, ax3, ay3, az3⟩, ⟨bk3, bx3, by3, bz3⟩, ⟨ck3, cx3, cy3, cz3⟩⟩ := v
  simp only [TripL.v] at heq ⊢
  go_enter Try.func5, Try.ntmps5
  have hb : Below (((w.alloc (.cells #[.int .i64 ak1, .string (bs ax1), .string (bs ay1), .string (bs az1), .int .i64 bk1, .string (bs bx1), .string (bs by1), .string (bs bz1), .int .i64 ck1, .string (bs cx1), .string (bs cy1), .string (bs cz1)] 25)).alloc (.cells #[.int .i64 ak2, .string (bs ax2), .string (bs ay2), .string (bs az2), .int .i64 bk2, .string (bs bx2), .string (bs by2), .string (bs bz2), .int .i64 ck2, .string (bs cx2), .string (bs cy2), .string (bs cz2)] 25)).alloc (.cells #[.int .i64 ak3, .string (bs ax3), .string (bs ay3), .string (bs az3), .int .i64 bk3, .string (bs bx3), .string (bs by3), .string (bs bz3), .int .i64 ck3, .string (bs cx3), .string (bs cy3), .string (bs cz3)] 25)).heap.size (((w.alloc (.cells #[.int .i64 ak1, .string (bs ax1), .string (bs ay1), .string (bs az1), .int .i64 bk1, .string (bs bx1), .string (bs by1), .string (bs bz1), .int .i64 ck1, .string (bs cx1), .string (bs cy1), .string (bs cz1)] 25)).alloc (.cells #[.int .i64 ak2, .string (bs ax2), .string (bs ay2), .string (bs az2), .int .i64 bk2, .string (bs bx2), .string (bs by2), .string (bs bz2), .int .i64 ck2, .string (bs cx2), .string (bs cy2), .string (bs cz2)] 25)).alloc (.cells #[.int .i64 ak3, .string (bs ax3), .string (bs ay3), .string (bs az3), .int .i64 bk3, .string (bs bx3), .string (bs by3), .string (bs bz3), .int .i64 ck3, .string (bs cx3), .string (bs cy3), .string (bs cz3)] 25)) (((w.alloc (.cells #[.int .i64 ak1, .string (bs ax1), .string (bs ay1), .string (bs az1), .int .i64 bk1, .string (bs bx1), .string (bs by1), .string (bs bz1), .int .i64 ck1, .string (bs cx1), .string (bs cy1), .string (bs cz1)] 25)).alloc (.cells #[.int .i64 ak2, .string (bs ax2), .string (bs ay2), .string (bs az2), .int .i64 bk2, .string (bs bx2), .string (bs by2), .string (bs bz2), .int .i64 ck2, .string (bs cx2), .string (bs cy2), .string (bs cz2)] 25)).alloc (.cells #[.int .i64 ak3, .string (bs ax3), .string (bs ay3), .string (bs az3), .int .i64 bk3, .string (bs bx3), .string (bs by3), .string (bs bz3), .int .i64 ck3, .string (bs cx3), .string (bs cy3), .string (bs cz3)] 25)) := Below.refl _ _
  go_wp2_with fail
  refine (tCompare_calls ⟨⟨ak1, ax1, ay1, az1⟩, ⟨bk1, bx1, by1, bz1⟩, ⟨ck1, cx1, cy1, cz1⟩⟩ ⟨⟨ak2, ax2, ay2, az2⟩, ⟨bk2, bx2, by2, bz2⟩, ⟨ck2, cx2, cy2, cz2⟩⟩ _).mono ?_
  rintro e w10 ⟨rfl, hbv⟩
  rw [HN.out]
  replace hb := first_step hb hbv
  clear hbv
  (try clear hc hf hz)
  obtain ⟨hc, hf⟩ := bcell hb
  have hz : w.heap.size + 2 < w10.heap.size := by have := hb.size; simp at this; omega
  go_wp2_with fail
  refine (rtCompare_calls ⟨⟨ak1, ax1, ay1, az1⟩, ⟨bk1, bx1, by1, bz1⟩, ⟨ck1, cx1, cy1, cz1⟩⟩ ⟨⟨ak2, ax2, ay2, az2⟩, ⟨bk2, bx2, by2, bz2⟩, ⟨ck2, cx2, cy2, cz2⟩⟩ _ HOK.out.1 HOK.out.2).mono ?_
  rintro e w11 ⟨rfl, hbv⟩
  rw [HN.out]
  replace hb := first_step hb hbv
  clear hbv
  (try clear hc hf hz)
  obtain ⟨hc, hf⟩ := bcell hb
  have hz : w.heap.size + 2 < w11.heap.size := by have := hb.size; simp at this; omega
  go_wp2_with fail
  refine (tCompare_calls ⟨⟨ak2, ax2, ay2, az2⟩, ⟨bk2, bx2, by2, bz2⟩, ⟨ck2, cx2, cy2, cz2⟩⟩ ⟨⟨ak1, ax1, ay1, az1⟩, ⟨bk1, bx1, by1, bz1⟩, ⟨ck1, cx1, cy1, cz1⟩⟩ _).mono ?_
  rintro e w12 ⟨rfl, hbv⟩
  rw [HNEG.out]
  replace hb := first_step hb hbv
  clear hbv
  (try clear hc hf hz)
  obtain ⟨hc, hf⟩ := bcell hb
  have hz : w.heap.size + 2 < w12.heap.size := by have := hb.size; simp at this; omega
  go_wp2_with fail
  refine (tCompare_calls ⟨⟨ak2, ax2, ay2, az2⟩, ⟨bk2, bx2, by2, bz2⟩, ⟨ck2, cx2, cy2, cz2⟩⟩ ⟨⟨ak3, ax3, ay3, az3⟩, ⟨bk3, bx3, by3, bz3⟩, ⟨ck3, cx3, cy3, cz3⟩⟩ _).mono ?_
  rintro e w13 ⟨rfl, hbv⟩
  rw [HM.out]
  replace hb := first_step hb hbv
  clear hbv
  (try clear hc hf hz)
  obtain ⟨hc, hf⟩ := bcell hb
  have hz : w.heap.size + 2 < w13.heap.size := by have := hb.size; simp at this; omega
  go_wp2_with fail
  refine (tCompare_calls ⟨⟨ak1, ax1, ay1, az1⟩, ⟨bk1, bx1, by1, bz1⟩, ⟨ck1, cx1, cy1, cz1⟩⟩ ⟨⟨ak3, ax3, ay3, az3⟩, ⟨bk3, bx3, by3, bz3⟩, ⟨ck3, cx3, cy3, cz3⟩⟩ _).mono ?_
  rintro e w14 ⟨rfl, hbv⟩
  rw [HL.out]
  replace hb := first_step hb hbv
  clear hbv
  (try clear hc hf hz)
  obtain ⟨hc, hf⟩ := bcell hb
  have hz : w.heap.size + 2 < w14.heap.size := by have := hb.size; simp at this; omega
  go_wp2_with fail
  refine (awake_calls _).mono ?_
  rintro e wa ⟨rfl, hbv⟩
  replace hb := first_step hb hbv
  go_wp2
  go_ret
  exact ⟨by simp, three_below hb⟩

set_option maxRecDepth 100000 in
set_option maxHeartbeats 8000000 in
theorem triplesOrders_same (t u v : TripL) (ht : t.ok) (hu : u.ok) (w : World) (hN : tripCmp t u = 0) (hM : tripCmp u v = 1) :
    Calls Try.prog 5 #[t.v, u.v, v.v] w fun e w' => e = .returned (.bool true) ∧ Below w.heap.size w w' := by
  have hq : teqs t u = true := by rw [teqs_of, hN] <;> rfl
  have HNEG := Lib.hid (show tripCmp u t = 0 by rw [tr_anti, hN] <;> rfl)
  have heq := fun W => eq_trip t u W
  rw [hq] at heq
  clear hq
  have HN := Lib.hid hN
  have HM := Lib.hid hM
  have HOK := Lib.hid (show t.ok ∧ u.ok from ⟨ht, hu⟩)
  clear hN ht hu hM
  obtain ⟨⟨ak1, ax1, ay1, az1⟩, ⟨bk1, bx1, by1, bz1⟩, ⟨ck1, cx1, cy1, cz1⟩⟩ := t
  obtain ⟨⟨ak2, ax2, ay2, az2⟩, ⟨bk2, bx2, by2, bz2⟩, ⟨ck2, cx2, cy2, cz2⟩⟩ := u
  obtain ⟨⟨ak3, ax3, ay3, az3⟩, ⟨bk3, bx3, by3, bz3⟩, ⟨ck3, cx3, cy3, cz3⟩⟩ := v
  simp only [TripL.v] at heq ⊢
  go_enter Try.func5, Try.ntmps5
  have hb : Below (((w.alloc (.cells #[.int .i64 ak1, .string (bs ax1), .string (bs ay1), .string (bs az1), .int .i64 bk1, .string (bs bx1), .string (bs by1), .string (bs bz1), .int .i64 ck1, .string (bs cx1), .string (bs cy1), .string (bs cz1)] 25)).alloc (.cells #[.int .i64 ak2, .string (bs ax2), .string (bs ay2), .string (bs az2), .int .i64 bk2, .string (bs bx2), .string (bs by2), .string (bs bz2), .int .i64 ck2, .string (bs cx2), .string (bs cy2), .string (bs cz2)] 25)).alloc (.cells #[.int .i64 ak3, .string (bs ax3), .string (bs ay3), .string (bs az3), .int .i64 bk3, .string (bs bx3), .string (bs by3), .string (bs bz3), .int .i64 ck3, .string (bs cx3), .string (bs cy3), .string (bs cz3)] 25)).heap.size (((w.alloc (.cells #[.int .i64 ak1, .string (bs ax1), .string (bs ay1), .string (bs az1), .int .i64 bk1, .string (bs bx1), .string (bs by1), .string (bs bz1), .int .i64 ck1, .string (bs cx1), .string (bs cy1), .string (bs cz1)] 25)).alloc (.cells #[.int .i64 ak2, .string (bs ax2), .string (bs ay2), .string (bs az2), .int .i64 bk2, .string (bs bx2), .string (bs by2), .string (bs bz2), .int .i64 ck2, .string (bs cx2), .string (bs cy2), .string (bs cz2)] 25)).alloc (.cells #[.int .i64 ak3, .string (bs ax3), .string (bs ay3), .string (bs az3), .int .i64 bk3, .string (bs bx3), .string (bs by3), .string (bs bz3), .int .i64 ck3, .string (bs cx3), .string (bs cy3), .string (bs cz3)] 25)) (((w.alloc (.cells #[.int .i64 ak1, .string (bs ax1), .string (bs ay1), .string (bs az1), .int .i64 bk1, .string (bs bx1), .string (bs by1), .string (bs bz1), .int .i64 ck1, .string (bs cx1), .string (bs cy1), .string (bs cz1)] 25)).alloc (.cells #[.int .i64 ak2, .string (bs ax2), .string (bs ay2), .string (bs az2), .int .i64 bk2, .string (bs bx2), .string (bs by2), .string (bs bz2), .int .i64 ck2, .string (bs cx2), .string (bs cy2), .string (bs cz2)] 25)).alloc (.cells #[.int .i64 ak3, .string (bs ax3), .string (bs ay3), .string (bs az3), .int .i64 bk3, .string (bs bx3), .string (bs by3), .string (bs bz3), .int .i64 ck3, .string (bs cx3), .string (bs cy3), .string (bs cz3)] 25)) := Below.refl _ _
  go_wp2_with fail
  refine (tCompare_calls ⟨⟨ak1, ax1, ay1, az1⟩, ⟨bk1, bx1, by1, bz1⟩, ⟨ck1, cx1, cy1, cz1⟩⟩ ⟨⟨ak2, ax2, ay2, az2⟩, ⟨bk2, bx2, by2, bz2⟩, ⟨ck2, cx2, cy2, cz2⟩⟩ _).mono ?_
  rintro e w16 ⟨rfl, hbv⟩
  rw [HN.out]
  replace hb := first_step hb hbv
  clear hbv
  (try clear hc hf hz)
  obtain ⟨hc, hf⟩ := bcell hb
  have hz : w.heap.size + 2 < w16.heap.size := by have := hb.size; simp at this; omega
  go_wp2_with fail
  refine (rtCompare_calls ⟨⟨ak1, ax1, ay1, az1⟩, ⟨bk1, bx1, by1, bz1⟩, ⟨ck1, cx1, cy1, cz1⟩⟩ ⟨⟨ak2, ax2, ay2, az2⟩, ⟨bk2, bx2, by2, bz2⟩, ⟨ck2, cx2, cy2, cz2⟩⟩ _ HOK.out.1 HOK.out.2).mono ?_
  rintro e w17 ⟨rfl, hbv⟩
  rw [HN.out]
  replace hb := first_step hb hbv
  clear hbv
  (try clear hc hf hz)
  obtain ⟨hc, hf⟩ := bcell hb
  have hz : w.heap.size + 2 < w17.heap.size := by have := hb.size; simp at this; omega
  go_wp2_with fail
  refine (tCompare_calls ⟨⟨ak2, ax2, ay2, az2⟩, ⟨bk2, bx2, by2, bz2⟩, ⟨ck2, cx2, cy2, cz2⟩⟩ ⟨⟨ak1, ax1, ay1, az1⟩, ⟨bk1, bx1, by1, bz1⟩, ⟨ck1, cx1, cy1, cz1⟩⟩ _).mono ?_
  rintro e w18 ⟨rfl, hbv⟩
  rw [HNEG.out]
  replace hb := first_step hb hbv
  clear hbv
  (try clear hc hf hz)
  obtain ⟨hc, hf⟩ := bcell hb
  have hz : w.heap.size + 2 < w18.heap.size := by have := hb.size; simp at this; omega
  go_wp2_with fail
  refine (tCompare_calls ⟨⟨ak2, ax2, ay2, az2⟩, ⟨bk2, bx2, by2, bz2⟩, ⟨ck2, cx2, cy2, cz2⟩⟩ ⟨⟨ak3, ax3, ay3, az3⟩, ⟨bk3, bx3, by3, bz3⟩, ⟨ck3, cx3, cy3, cz3⟩⟩ _).mono ?_
  rintro e w19 ⟨rfl, hbv⟩
  rw [HM.out]
  replace hb := first_step hb hbv
  clear hbv
  (try clear hc hf hz)
  obtain ⟨hc, hf⟩ := bcell hb
  have hz : w.heap.size + 2 < w19.heap.size := by have := hb.size; simp at this; omega
  go_wp2_with fail
  refine (awake_calls _).mono ?_
  rintro e wa ⟨rfl, hbv⟩
  replace hb := first_step hb hbv
  go_wp2
  go_ret
  exact ⟨by simp, three_below hb⟩

set_option maxRecDepth 100000 in
set_option maxHeartbeats 8000000 in
theorem triplesOrders_same2 (t u v : TripL) (ht : t.ok) (hu : u.ok) (w : World) (hN : tripCmp t u = 0) (m : Int) (hM : tripCmp u v = m) (hm : m ≤ 0) (l : Int) (hL : tripCmp t v = l) (hl : l ≤ 0) :
    Calls Try.prog 5 #[t.v, u.v, v.v] w fun e w' => e = .returned (.bool true) ∧ Below w.heap.size w w' := by
  have hq : teqs t u = true := by rw [teqs_of, hN] <;> rfl
  have HNEG := Lib.hid (show tripCmp u t = 0 by rw [tr_anti, hN] <;> rfl)
  have heq := fun W => eq_trip t u W
  rw [hq] at heq
  clear hq
  have HN := Lib.hid hN
  have HM := Lib.hid hM
  have HL := Lib.hid hL
  clear hL
  have HOK := Lib.hid (show t.ok ∧ u.ok from ⟨ht, hu⟩)
  clear hN ht hu hM
  obtain ⟨⟨ak1, ax1, ay1, az1⟩, ⟨bk1, bx1, by1, bz1⟩, ⟨ck1, cx1, cy1, cz1⟩⟩ := t
  obtain ⟨⟨ak2, ax2, ay2, az2⟩, ⟨bk2, bx2, by2, bz2⟩, ⟨ck2, cx2, cy2, cz2⟩⟩ := u
  obtain ⟨⟨ak3, ax3, ay3, az3⟩, ⟨bk3, bx3, by3, bz3⟩, ⟨ck3, cx3, cy3, cz3⟩⟩ := v
  simp only [TripL.v] at heq ⊢
  go_enter Try.func5, Try.ntmps5
  have hb : Below (((w.alloc (.cells #[.int .i64 ak1, .string (bs ax1), .string (bs ay1), .string (bs az1), .int .i64 bk1, .string (bs bx1), .string (bs by1), .string (bs bz1), .int .i64 ck1, .string (bs cx1), .string (bs cy1), .string (bs cz1)] 25)).alloc (.cells #[.int .i64 ak2, .string (bs ax2), .string (bs ay2), .string (bs az2), .int .i64 bk2, .string (bs bx2), .string (bs by2), .string (bs bz2), .int .i64 ck2, .string (bs cx2), .string (bs cy2), .string (bs cz2)] 25)).alloc (.cells #[.int .i64 ak3, .string (bs ax3), .string (bs ay3), .string (bs az3), .int .i64 bk3, .string (bs bx3), .string (bs by3), .string (bs bz3), .int .i64 ck3, .string (bs cx3), .string (bs cy3), .string (bs cz3)] 25)).heap.size (((w.alloc (.cells #[.int .i64 ak1, .string (bs ax1), .string (bs ay1), .string (bs az1), .int .i64 bk1, .string (bs bx1), .string (bs by1), .string (bs bz1), .int .i64 ck1, .string (bs cx1), .string (bs cy1), .string (bs cz1)] 25)).alloc (.cells #[.int .i64 ak2, .string (bs ax2), .string (bs ay2), .string (bs az2), .int .i64 bk2, .string (bs bx2), .string (bs by2), .string (bs bz2), .int .i64 ck2, .string (bs cx2), .string (bs cy2), .string (bs cz2)] 25)).alloc (.cells #[.int .i64 ak3, .string (bs ax3), .string (bs ay3), .string (bs az3), .int .i64 bk3, .string (bs bx3), .string (bs by3), .string (bs bz3), .int .i64 ck3, .string (bs cx3), .string (bs cy3), .string (bs cz3)] 25)) (((w.alloc (.cells #[.int .i64 ak1, .string (bs ax1), .string (bs ay1), .string (bs az1), .int .i64 bk1, .string (bs bx1), .string (bs by1), .string (bs bz1), .int .i64 ck1, .string (bs cx1), .string (bs cy1), .string (bs cz1)] 25)).alloc (.cells #[.int .i64 ak2, .string (bs ax2), .string (bs ay2), .string (bs az2), .int .i64 bk2, .string (bs bx2), .string (bs by2), .string (bs bz2), .int .i64 ck2, .string (bs cx2), .string (bs cy2), .string (bs cz2)] 25)).alloc (.cells #[.int .i64 ak3, .string (bs ax3), .string (bs ay3), .string (bs az3), .int .i64 bk3, .string (bs bx3), .string (bs by3), .string (bs bz3), .int .i64 ck3, .string (bs cx3), .string (bs cy3), .string (bs cz3)] 25)) := Below.refl _ _
  go_wp2_with fail
  refine (tCompare_calls ⟨⟨ak1, ax1, ay1, az1⟩, ⟨bk1, bx1, by1, bz1⟩, ⟨ck1, cx1, cy1, cz1⟩⟩ ⟨⟨ak2, ax2, ay2, az2⟩, ⟨bk2, bx2, by2, bz2⟩, ⟨ck2, cx2, cy2, cz2⟩⟩ _).mono ?_
  rintro e w21 ⟨rfl, hbv⟩
  rw [HN.out]
  replace hb := first_step hb hbv
  clear hbv
  (try clear hc hf hz)
  obtain ⟨hc, hf⟩ := bcell hb
  have hz : w.heap.size + 2 < w21.heap.size := by have := hb.size; simp at this; omega
  go_wp2_with fail
  refine (rtCompare_calls ⟨⟨ak1, ax1, ay1, az1⟩, ⟨bk1, bx1, by1, bz1⟩, ⟨ck1, cx1, cy1, cz1⟩⟩ ⟨⟨ak2, ax2, ay2, az2⟩, ⟨bk2, bx2, by2, bz2⟩, ⟨ck2, cx2, cy2, cz2⟩⟩ _ HOK.out.1 HOK.out.2).mono ?_
  rintro e w22 ⟨rfl, hbv⟩
  rw [HN.out]
  replace hb := first_step hb hbv
  clear hbv
  (try clear hc hf hz)
  obtain ⟨hc, hf⟩ := bcell hb
  have hz : w.heap.size + 2 < w22.heap.size := by have := hb.size; simp at this; omega
  go_wp2_with fail
  refine (tCompare_calls ⟨⟨ak2, ax2, ay2, az2⟩, ⟨bk2, bx2, by2, bz2⟩, ⟨ck2, cx2, cy2, cz2⟩⟩ ⟨⟨ak1, ax1, ay1, az1⟩, ⟨bk1, bx1, by1, bz1⟩, ⟨ck1, cx1, cy1, cz1⟩⟩ _).mono ?_
  rintro e w23 ⟨rfl, hbv⟩
  rw [HNEG.out]
  replace hb := first_step hb hbv
  clear hbv
  (try clear hc hf hz)
  obtain ⟨hc, hf⟩ := bcell hb
  have hz : w.heap.size + 2 < w23.heap.size := by have := hb.size; simp at this; omega
  go_wp2_with fail
  refine (tCompare_calls ⟨⟨ak2, ax2, ay2, az2⟩, ⟨bk2, bx2, by2, bz2⟩, ⟨ck2, cx2, cy2, cz2⟩⟩ ⟨⟨ak3, ax3, ay3, az3⟩, ⟨bk3, bx3, by3, bz3⟩, ⟨ck3, cx3, cy3, cz3⟩⟩ _).mono ?_
  rintro e w24 ⟨rfl, hbv⟩
  rw [HM.out]
  replace hb := first_step hb hbv
  clear hbv
  (try clear hc hf hz)
  obtain ⟨hc, hf⟩ := bcell hb
  have hz : w.heap.size + 2 < w24.heap.size := by have := hb.size; simp at this; omega
  go_wp2_with fail
  refine (tCompare_calls ⟨⟨ak1, ax1, ay1, az1⟩, ⟨bk1, bx1, by1, bz1⟩, ⟨ck1, cx1, cy1, cz1⟩⟩ ⟨⟨ak3, ax3, ay3, az3⟩, ⟨bk3, bx3, by3, bz3⟩, ⟨ck3, cx3, cy3, cz3⟩⟩ _).mono ?_
  rintro e w25 ⟨rfl, hbv⟩
  rw [HL.out]
  replace hb := first_step hb hbv
  clear hbv
  (try clear hc hf hz)
  obtain ⟨hc, hf⟩ := bcell hb
  have hz : w.heap.size + 2 < w25.heap.size := by have := hb.size; simp at this; omega
  go_wp2_with fail
  refine (awake_calls _).mono ?_
  rintro e wa ⟨rfl, hbv⟩
  replace hb := first_step hb hbv
  go_wp2
  go_ret
  exact ⟨by simp, three_below hb⟩

theorem triplesOrders_calls (t u v : TripL) (ht : t.ok) (hu : u.ok) (w : World) :
    Calls Try.prog 5 #[t.v, u.v, v.v] w fun e w' => e = .returned (.bool true) ∧ Below w.heap.size w w' := by
  rcases tr_range t u with h | h | h
  · rcases tr_range u v with g | g | g
    · exact triplesOrders_ahead2 t u v ht hu w h _ rfl (by omega) _ rfl (tr_trans t u v (by omega) (by omega))
    · exact triplesOrders_ahead2 t u v ht hu w h _ rfl (by omega) _ rfl (tr_trans t u v (by omega) (by omega))
    · exact triplesOrders_ahead t u v ht hu w h g
  · rcases tr_range u v with g | g | g
    · exact triplesOrders_same2 t u v ht hu w h _ rfl (by omega) _ rfl (tr_trans t u v (by omega) (by omega))
    · exact triplesOrders_same2 t u v ht hu w h _ rfl (by omega) _ rfl (tr_trans t u v (by omega) (by omega))
    · exact triplesOrders_same t u v ht hu w h g
  · exact triplesOrders_behind t u v ht hu w h

end Go.Proofs.Ythdhoaihmlodjaa
