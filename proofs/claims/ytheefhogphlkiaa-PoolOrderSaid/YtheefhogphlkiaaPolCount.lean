/- How many messages are for that one, by the pool and by the document; how many have these bytes; two rows of messages held against each other (written by gen/mkpolcount.py). -/
import Derived.Test.YtheefhogphlkiaaPolDrop
namespace Go.Proofs.Ytheefhogphlkiaa
open Go.RowKit

theorem toN_more (L : List MsgL) (to : Int) (k : Nat) (hk : k < L.length) : toN (L.take (k + 1)) to = toN (L.take k) to + (if L[k].t = to then 1 else 0) := by
  unfold toN
  rw [List.take_succ_eq_append_getElem hk, List.countP_append, List.countP_singleton]
  simp
theorem bytesN_more (L : List MsgL) (s : ByteArray) (k : Nat) (hk : k < L.length) : bytesN (L.take (k + 1)) s = bytesN (L.take k) s + (if (L[k].b.toList == s.toList) = true then 1 else 0) := by
  unfold bytesN
  rw [List.take_succ_eq_append_getElem hk, List.countP_append, List.countP_singleton]

/- the document's Count, and the law's count: they only read -/
set_option maxRecDepth 100000 in
set_option maxHeartbeats 2000000 in
theorem rCount_calls (B : Nat) (x : Value) (L : List MsgL) (to : Int) (w : World) (h : Own w B x L) (hsm : L.length ≤ 100000) :
    Calls Try.prog 14 #[x, .int .i64 to] w fun e w' => e = .returned (.int .i64 (toN L to : Nat)) ∧ w' = w := by
  obtain ⟨va, vc, rfl, hcap, hmax, hrow⟩ := own_open h
  obtain ⟨N, hN⟩ : ∃ N, L.length = N := ⟨_, rfl⟩
  have HN := Lib.hid hN
  have HR := Lib.hid (show 0 < N → ∃ g, va = some ⟨g, 0, none⟩ ∧ g < w.heap.size ∧ ∀ j (h : j < L.length), Msg3 w g (j * 3) L[j] from fun h0 => by
    obtain ⟨g, h1, _, h2, h3⟩ := hrow (by rw [hN]; exact h0)
    exact ⟨g, h1, h2, h3⟩)
  have HA : Hid (L.take N = L) := by show _ = _; rw [← hN]; exact List.take_length
  have HM := Lib.hid (fun k (hk : k < L.length) => toN_more L to k hk)
  have HL := Lib.hid (fun k (hk : k ≤ N) => show toN (L.take k) to ≤ k from Nat.le_trans (toN_le _ _) (by rw [List.length_take]; omega))
  rw [hN] at hcap hsm ⊢
  clear hN hrow h
  go_enter Try.func14, Try.ntmps14
  go_wp2
  go_loop [5, 6] (fun n i => ∃ k : Nat, k ≤ N ∧ n = .int .i64 (toN (L.take k) to : Nat) ∧ i = .int .i64 k) (fun _ i => N - (intOf i).toNat)
  case atStart => exact ⟨0, Nat.zero_le _, rfl, rfl⟩
  case round =>
    obtain ⟨k, hk, rfl, rfl⟩ := hrel
    by_cases hlt : k < N
    · obtain ⟨g, rfl, hg, hm⟩ := HR.out (by omega)
      have hkL : k < L.length := by rw [HN.out]; exact hlt
      obtain ⟨d0, d1, d2⟩ := hm k hkL
      have hmo := HM.out k hkL
      have hle := HL.out k hk
      obtain ⟨T, hT⟩ : ∃ T, toN (L.take k) to = T := ⟨_, rfl⟩
      rw [hT] at hmo hle ⊢
      have g1 : (0 : Int) ≤ (k : Int) := by omega
      have g2 : (k : Int) < (N : Int) := by omega
      generalize L[k] = y at d0 d1 d2 hmo
      clear hm hT
      by_cases hc : y.t = to
      · have HE := Lib.hid (show toN (L.take (k + 1)) to = T + 1 by rw [hmo, if_pos hc])
        have q1 : (y.t == to) = true := beq_iff_eq.2 hc
        clear hmo hc
        go_wp2
        go_round
        case rel => exact ⟨k + 1, by omega, by rw [HE.out]; go_num, by go_num⟩
        case measure => simp [intOf]; omega
      · have HE := Lib.hid (show toN (L.take (k + 1)) to = T by rw [hmo, if_neg hc, Nat.add_zero])
        have q1 : (y.t == to) = false := beq_eq_false_iff_ne.2 hc
        clear hmo hc
        go_wp2
        go_round
        case rel => exact ⟨k + 1, by omega, by rw [HE.out], by go_num⟩
        case measure => simp [intOf]; omega
    · have g3 : ¬ (k : Int) < (N : Int) := by omega
      have hkN : k = N := by omega
      rw [hkN, HA.out] at *
      clear hkN
      go_wp2
      go_ret
      exact ⟨rfl, rfl⟩

set_option maxRecDepth 100000 in
set_option maxHeartbeats 2000000 in
theorem lcount_calls (B : Nat) (x : Value) (L : List MsgL) (s : ByteArray) (w : World) (h : Own w B x L) (hsm : L.length ≤ 100000) :
    Calls Try.prog 21 #[x, .string s] w fun e w' => e = .returned (.int .i64 (bytesN L s : Nat)) ∧ w' = w := by
  obtain ⟨va, vc, rfl, hcap, hmax, hrow⟩ := own_open h
  obtain ⟨N, hN⟩ : ∃ N, L.length = N := ⟨_, rfl⟩
  have HN := Lib.hid hN
  have HR := Lib.hid (show 0 < N → ∃ g, va = some ⟨g, 0, none⟩ ∧ g < w.heap.size ∧ ∀ j (h : j < L.length), Msg3 w g (j * 3) L[j] from fun h0 => by
    obtain ⟨g, h1, _, h2, h3⟩ := hrow (by rw [hN]; exact h0)
    exact ⟨g, h1, h2, h3⟩)
  have HA : Hid (L.take N = L) := by show _ = _; rw [← hN]; exact List.take_length
  have HM := Lib.hid (fun k (hk : k < L.length) => bytesN_more L s k hk)
  have HL := Lib.hid (fun k (hk : k ≤ N) => show bytesN (L.take k) s ≤ k from Nat.le_trans (bytesN_le _ _) (by rw [List.length_take]; omega))
  rw [hN] at hcap hsm ⊢
  clear hN hrow h
  go_enter Try.func21, Try.ntmps21
  go_wp2
  go_loop [5, 6] (fun n i => ∃ k : Nat, k ≤ N ∧ n = .int .i64 (bytesN (L.take k) s : Nat) ∧ i = .int .i64 k) (fun _ i => N - (intOf i).toNat)
  case atStart => exact ⟨0, Nat.zero_le _, rfl, rfl⟩
  case round =>
    obtain ⟨k, hk, rfl, rfl⟩ := hrel
    by_cases hlt : k < N
    · obtain ⟨g, rfl, hg, hm⟩ := HR.out (by omega)
      have hkL : k < L.length := by rw [HN.out]; exact hlt
      obtain ⟨d0, d1, d2⟩ := hm k hkL
      have hmo := HM.out k hkL
      have hle := HL.out k hk
      obtain ⟨T, hT⟩ : ∃ T, bytesN (L.take k) s = T := ⟨_, rfl⟩
      rw [hT] at hmo hle ⊢
      have g1 : (0 : Int) ≤ (k : Int) := by omega
      have g2 : (k : Int) < (N : Int) := by omega
      generalize L[k] = y at d0 d1 d2 hmo
      clear hm hT
      by_cases hc : (y.b.toList == s.toList) = true
      · have HE := Lib.hid (show bytesN (L.take (k + 1)) s = T + 1 by rw [hmo, if_pos hc])
        have q1 := hc
        clear hmo hc
        go_wp2
        go_round
        case rel => exact ⟨k + 1, by omega, by rw [HE.out]; go_num, by go_num⟩
        case measure => simp [intOf]; omega
      · have HE := Lib.hid (show bytesN (L.take (k + 1)) s = T by rw [hmo, if_neg hc, Nat.add_zero])
        have q1 : (y.b.toList == s.toList) = false := by simpa using hc
        clear hmo hc
        go_wp2
        go_round
        case rel => exact ⟨k + 1, by omega, by rw [HE.out], by go_num⟩
        case measure => simp [intOf]; omega
    · have g3 : ¬ (k : Int) < (N : Int) := by omega
      have hkN : k = N := by omega
      rw [hkN, HA.out] at *
      clear hkN
      go_wp2
      go_ret
      exact ⟨rfl, rfl⟩

/- the pool's Count: a variable of its own a round -/
def CountR (w : World) (L : List MsgL) (to : Int) (N : Nat) (n i : Value) (wr : World) : Prop := ∃ k : Nat, k ≤ N ∧ n = .int .i64 (toN (L.take k) to : Nat) ∧ i = .int .i64 k ∧ Below w.heap.size w wr
set_option maxRecDepth 100000 in
set_option maxHeartbeats 2000000 in
theorem count_calls (B P : Nat) (v : Value) (L : List MsgL) (to : Int) (w : World) (h : PoolT w B P v L) :
    Calls Try.prog 13 #[.pointer (some ⟨P, 0, none⟩), .int .i64 to] w fun e w' => e = .returned (.int .i64 (toN L to : Nat)) ∧ Below w.heap.size w w' := by
  have c0 := h.cell
  have hsm := h.ok.2
  obtain ⟨va, vc, rfl, hcap, hmax, hrow⟩ := own_open h.own
  obtain ⟨N, hN⟩ : ∃ N, L.length = N := ⟨_, rfl⟩
  have HN := Lib.hid hN
  have HR := Lib.hid (show 0 < N → ∃ g, va = some ⟨g, 0, none⟩ ∧ g < w.heap.size ∧ ∀ j (h : j < L.length), Msg3 w g (j * 3) L[j] from fun h0 => by
    obtain ⟨g, h1, _, h2, h3⟩ := hrow (by rw [hN]; exact h0)
    exact ⟨g, h1, h2, h3⟩)
  have HA : Hid (L.take N = L) := by show _ = _; rw [← hN]; exact List.take_length
  have HM := Lib.hid (fun k (hk : k < L.length) => toN_more L to k hk)
  have HL := Lib.hid (fun k (hk : k ≤ N) => show toN (L.take k) to ≤ k from Nat.le_trans (toN_le _ _) (by rw [List.length_take]; omega))
  rw [hN] at c0 hcap hsm
  clear hN hrow h
  go_enter Try.func13, Try.ntmps13
  go_wp2
  clear c0
  go_loopw [5, 16] (fun n i wr => CountR w L to N n i wr) (fun _ i _ => N - (intOf i).toNat)
  case atStart => exact ⟨0, Nat.zero_le _, rfl, rfl, Below.refl _ _⟩
  case round =>
    obtain ⟨k, hk, rfl, rfl, hb⟩ := hrel
    by_cases hlt : k < N
    · obtain ⟨g, rfl, hg, hm⟩ := HR.out (by omega)
      have hkL : k < L.length := by rw [HN.out]; exact hlt
      obtain ⟨d0, d1, d2⟩ := (hm k hkL).on hb hg
      have hgr : g < wr.heap.size := Nat.lt_of_lt_of_le hg hb.size
      have hmo := HM.out k hkL
      have hle := HL.out k hk
      obtain ⟨T, hT⟩ : ∃ T, toN (L.take k) to = T := ⟨_, rfl⟩
      rw [hT] at hmo hle ⊢
      have g1 : (0 : Int) ≤ (k : Int) := by omega
      have g2 : (k : Int) < (N : Int) := by omega
      generalize L[k] = y at d0 d1 d2 hmo
      have HB := Lib.hid hb
      clear hm hT hb
      by_cases hc : y.t = to
      · have HE := Lib.hid (show toN (L.take (k + 1)) to = T + 1 by rw [hmo, if_pos hc])
        have q1 : (y.t == to) = true := beq_iff_eq.2 hc
        clear hmo hc
        go_wp2
        go_roundw
        case rel => exact ⟨k + 1, by omega, by rw [HE.out]; go_num, by go_num, HB.out.alloc HB.out.size _⟩
        case measure => simp [intOf]; omega
      · have HE := Lib.hid (show toN (L.take (k + 1)) to = T by rw [hmo, if_neg hc, Nat.add_zero])
        have q1 : (y.t == to) = false := beq_eq_false_iff_ne.2 hc
        clear hmo hc
        go_wp2
        go_roundw
        case rel => exact ⟨k + 1, by omega, by rw [HE.out], by go_num, HB.out.alloc HB.out.size _⟩
        case measure => simp [intOf]; omega
    · have g3 : ¬ (k : Int) < (N : Int) := by omega
      have hkN : k = N := by omega
      have HB := Lib.hid hb
      rw [hkN, HA.out] at *
      clear hkN hb
      go_wp2
      go_ret
      exact ⟨rfl, HB.out⟩
set_option maxHeartbeats 1000000 in
theorem count_nil (to : Int) (w : World) : Calls Try.prog 13 #[.pointer none, .int .i64 to] w fun e w' => e = .returned (.int .i64 0) ∧ w' = w := by
  go_enter Try.func13, Try.ntmps13
  go_wp2
  go_ret
  exact ⟨rfl, rfl⟩

/- two rows of the same messages -/
set_option maxRecDepth 100000 in
set_option maxHeartbeats 2000000 in
theorem same_calls (B B' : Nat) (x y : Value) (L : List MsgL) (w : World) (hx : Own w B x L) (hy : Own w B' y L) (hsm : L.length ≤ 100000) :
    Calls Try.prog 10 #[x, y] w fun e w' => e = .returned (.bool true) ∧ Below w.heap.size w w' := by
  obtain ⟨va, vc, rfl, hcap, hmax, hrow⟩ := own_open hx
  obtain ⟨ua, uc, rfl, hcap2, hmax2, hrow2⟩ := own_open hy
  obtain ⟨N, hN⟩ : ∃ N, L.length = N := ⟨_, rfl⟩
  have HN := Lib.hid hN
  have HR := Lib.hid (show 0 < N → ∃ g g', va = some ⟨g, 0, none⟩ ∧ ua = some ⟨g', 0, none⟩ ∧ g < w.heap.size ∧ g' < w.heap.size ∧ ∀ j (h : j < L.length), Msg3 w g (j * 3) L[j] ∧ Msg3 w g' (j * 3) L[j] from fun h0 => by
    obtain ⟨g, h1, _, h2, h3⟩ := hrow (by rw [hN]; exact h0)
    obtain ⟨g', h1', _, h2', h3'⟩ := hrow2 (by rw [hN]; exact h0)
    exact ⟨g, g', h1, h1', h2, h2', fun j hj => ⟨h3 j hj, h3' j hj⟩⟩)
  rw [hN] at hcap hcap2 hsm ⊢
  clear hN hrow hrow2 hx hy
  go_enter Try.func10, Try.ntmps10
  go_wp2
  go_loopw [5] (fun i wr => ∃ k : Nat, k ≤ N ∧ i = .int .i64 k ∧ Below w.heap.size w wr) (fun i _ => N - (intOf i).toNat)
  case atStart => exact ⟨0, Nat.zero_le _, rfl, Below.refl _ _⟩
  case round =>
    obtain ⟨k, hk, rfl, hb⟩ := hrel
    by_cases hlt : k < N
    · obtain ⟨g, g', rfl, rfl, hg, hg', hm⟩ := HR.out (by omega)
      have hkL : k < L.length := by rw [HN.out]; exact hlt
      obtain ⟨d0, d1, d2⟩ := (hm k hkL).1.on hb hg
      obtain ⟨e0, e1, e2⟩ := (hm k hkL).2.on hb hg'
      have hgr : g < wr.heap.size := Nat.lt_of_lt_of_le hg hb.size
      have hgr' : g' < wr.heap.size := Nat.lt_of_lt_of_le hg' hb.size
      have g1 : (0 : Int) ≤ (k : Int) := by omega
      have g2 : (k : Int) < (N : Int) := by omega
      generalize L[k] = m at d0 d1 d2 e0 e1 e2
      have hq := fun W => neql_msg m m W
      rw [meq_self m] at hq
      have HB := Lib.hid hb
      clear hm hb
      go_wp2_with fail
      go_quiet (fail)
      go_wp2
      go_roundw
      case rel => exact ⟨k + 1, by omega, by go_num, by first | exact HB.out | exact HB.out.drew | exact drewN_below HB.out _⟩
      case measure => simp [intOf]; omega
    · have g3 : ¬ (k : Int) < (N : Int) := by omega
      have HB := Lib.hid hb
      clear hb
      go_wp2
      go_ret
      exact ⟨rfl, HB.out⟩

end Go.Proofs.Ytheefhogphlkiaa
