/- Texts one behind the other are those of the triples one behind the other: the walk of the statement's function. -/
import Derived.Test.YthdhoaihmlodjaaTripAwake
import Derived.Test.YthdhoaihmlodjaaTripJoinPlain
import Derived.Test.YthdhoaihmlodjaaRefSame
import Derived.Test.YthdhoaihmlodjaaTermJoin
import Derived.Laws.AppendOwnNone
namespace Go.Proofs.Ythdhoaihmlodjaa
open Go.RowKit

theorem one_more {w w1 w2 : World} (h : Below w.heap.size w w1) (h2 : Below w1.heap.size w1 w2) : Below w.heap.size w w2 := h.trans (h2.mono h.size)
theorem row_kept {w w' : World} {B size n : Nat} {e : TypeId} {v : Value} {xs : List Value} {row : Option Nat} (h : w.ownsRow B e size v n xs) (hg : w.grownBy w' row) (hr : ∀ k, row = some k → w.heap.size ≤ k ∨ ∀ g, v.ownBlock = some g → g < k) : w'.ownsRow B e size v n xs := by
  refine h.kept hg ?_
  cases hv : v.ownBlock with
  | none => exact .inl rfl
  | some g =>
    right
    intro c
    have hl := (h.lt g hv).2
    rcases hr g c.symm with h1 | h1
    · omega
    · have := h1 g hv; omega
theorem below_draws {B : Nat} {a w : World} (h : Below B a w) (n : Nat) : Below B a (w.drewN n) := ⟨h.os, h.tape, h.output, h.size, h.block⟩
theorem wpList_append_wanted_none {P : Program} {w : World} {ops : Array Oper} {rest : List Oper} {o : Oper} {a : Act} {Q : Exit → Act → World → Prop} (hw : Region.wanted o (yielded ops a.tmps) = true) (s x : Operand) (t : TypeId)
    (ho : o.op = .call { callee := .builtin .append, args := #[s, x], argTypes := #[t, t] })
    (base : Nat) (e : TypeId) (i : TypeInfo) (size : Nat) (ht : P.underlying t = some (.slice e)) (hi : P.info? e = some i)
    (v : Value) (n : Nat) (xs : List Value) (hs : a.eval s = v) (hown : w.ownsRow base e size v n xs) (hx : a.eval x = .slice none 0 0)
    (h : wpList P ops Q rest (a.put o.dst v) w) : wpList P ops Q (o :: rest) a w := by
  refine wpList_step fun K hK => ?_
  rw [if_pos hw]
  have hrun := run_append_owned_none (P := P) (w := w) base t o.type e i size ht hi v n xs hown
  unfold Oper.wp
  simp [execOp, ho, resolve, invoke, builtin, hs, hx, hrun, Result.andThen]
  exact hK _ _ h
theorem wpList_append_wanted {P : Program} {w : World} {ops : Array Oper} {rest : List Oper} {o : Oper} {a : Act} {Q : Exit → Act → World → Prop} (hw : Region.wanted o (yielded ops a.tmps) = true) (s x : Operand) (t : TypeId)
    (ho : o.op = .call { callee := .builtin .append, args := #[s, x], argTypes := #[t, t] })
    (base : Nat) (e : TypeId) (i : TypeInfo) (z : Value) (size bytes : Nat) (ht : P.underlying t = some (.slice e)) (hi : P.info? e = some i) (hz : i.zero = some z)
    (hsize : i.size = size) (hby : i.bytes = bytes) (hzs : z.cells.size = size) (hsz : 0 < size)
    (v : Value) (n : Nat) (xs : List Value) (hs : a.eval s = v) (hown : w.ownsRow base e size v n xs)
    (ad : Addr) (m c : Nat) (news : List Value) (hx : a.eval x = .slice (some ad) m c) (hl : news.length = m * size) (hnews : ∀ j u, news[j]? = some u → w.cell? (ad.add j) = some u) (h1 : ∀ u ∈ news, u.oneCell' = true)
    (h63 : n + m ≤ maxLen) (hbytes : (n + m) * bytes ≤ 140737488355328) (hbase : base ≤ w.heap.size)
    (h : ∀ v' w', w'.ownsRow base e size v' (n + m) (xs ++ news) → w.grownBy w' v.ownBlock → (v' = .slice none 0 0 ↔ v = .slice none 0 0 ∧ m = 0) → wpList P ops Q rest (a.put o.dst v') w') : wpList P ops Q (o :: rest) a w :=
  wpList_step fun K hK => by
    rw [if_pos hw]
    exact wp_append_own w s x t ho base e i z size bytes ht hi hz hsize hby hzs hsz v n xs hs hown ad m c news hx hl hnews h1 h63 hbytes hbase fun v' w' h2 h3 h4 => hK _ _ (h v' w' h2 h3 h4)
theorem own_lt {w : World} {B size n : Nat} {e : TypeId} {v : Value} {xs : List Value} (h : w.ownsRow B e size v n xs) (g : Nat) (hg : v.ownBlock = some g) : g < w.heap.size := (h.lt g hg).2
theorem own_size {s : ByteArray} (l : List UInt8) (h : s.data.toList = l) : s = bs l := bs_eq h
theorem bs_add (a b : ByteArray) : (a ++ b).data.toList = a.data.toList ++ b.data.toList := by
  have := bs_app a.data.toList b.data.toList
  rw [bs_of, bs_of] at this
  rw [this]; rfl

set_option maxRecDepth 100000 in
set_option maxHeartbeats 8000000 in
theorem triplesJoins_badA (a b : ByteArray) (w : World) (hsa : a.size ≤ 140737488351232) (hsb : b.size ≤ 140737488351232) (la lb : List TripL) (na nb ea eb : Int) (ha : ansS a.data.toList = (la, na, ea)) (hb : ansS b.data.toList = (lb, nb, eb)) (hea : (ea != 0) = true) :
    Calls Try.prog 6 #[.string a, .string b] w fun e w' => e = .returned (.bool true) ∧ Below w.heap.size w w' := by
  have HA := Lib.hid ha
  have HB := Lib.hid hb
  clear ha hb

  go_enter Try.func6, Try.ntmps6
  go_wp2_with fail
  refine (tRead_calls a _ (by omega)).mono ?_
  rintro e w1 ⟨v1, rfl, hown1, hb1⟩
  rw [HA.out] at *
  dsimp only at *
  go_wp2_with fail
  refine (tRead_calls b _ (by omega)).mono ?_
  rintro e w2 ⟨v2, rfl, hown2, hb2⟩
  rw [HB.out] at *
  dsimp only at *
  have hbb := one_more hb1 hb2
  replace hown1 := rowOn hown1 hb2
  clear hown1 hown2
  go_wp2_with fail
  refine (awake_calls _).mono ?_
  rintro e w3 ⟨rfl, hb3⟩
  go_wp2
  go_ret
  exact ⟨by simp, one_more hbb hb3⟩

set_option maxRecDepth 100000 in
set_option maxHeartbeats 8000000 in
theorem triplesJoins_badB (a b : ByteArray) (w : World) (hsa : a.size ≤ 140737488351232) (hsb : b.size ≤ 140737488351232) (la lb : List TripL) (na nb ea eb : Int) (ha : ansS a.data.toList = (la, na, ea)) (hb : ansS b.data.toList = (lb, nb, eb)) (hea : (ea != 0) = false) (heb : (eb != 0) = true) :
    Calls Try.prog 6 #[.string a, .string b] w fun e w' => e = .returned (.bool true) ∧ Below w.heap.size w w' := by
  have HA := Lib.hid ha
  have HB := Lib.hid hb
  clear ha hb

  go_enter Try.func6, Try.ntmps6
  go_wp2_with fail
  refine (tRead_calls a _ (by omega)).mono ?_
  rintro e w1 ⟨v1, rfl, hown1, hb1⟩
  rw [HA.out] at *
  dsimp only at *
  go_wp2_with fail
  refine (tRead_calls b _ (by omega)).mono ?_
  rintro e w2 ⟨v2, rfl, hown2, hb2⟩
  rw [HB.out] at *
  dsimp only at *
  have hbb := one_more hb1 hb2
  replace hown1 := rowOn hown1 hb2
  clear hown1 hown2
  go_wp2_with fail
  refine (awake_calls _).mono ?_
  rintro e w3 ⟨rfl, hb3⟩
  go_wp2
  go_ret
  exact ⟨by simp, one_more hbb hb3⟩

set_option maxRecDepth 100000 in
set_option maxHeartbeats 8000000 in
theorem triplesJoins_longA (a b : ByteArray) (w : World) (hsa : a.size ≤ 140737488351232) (hsb : b.size ≤ 140737488351232) (la lb : List TripL) (na nb ea eb : Int) (ha : ansS a.data.toList = (la, na, ea)) (hb : ansS b.data.toList = (lb, nb, eb)) (hea : (ea != 0) = false) (heb : (eb != 0) = false) (hla : 2000 < la.length) :
    Calls Try.prog 6 #[.string a, .string b] w fun e w' => e = .returned (.bool true) ∧ Below w.heap.size w w' := by
  have HA := Lib.hid ha
  have HB := Lib.hid hb
  clear ha hb
  have g1 : (2000 : Int) < (la.length : Int) := by omega
  go_enter Try.func6, Try.ntmps6
  go_wp2_with fail
  refine (tRead_calls a _ (by omega)).mono ?_
  rintro e w1 ⟨v1, rfl, hown1, hb1⟩
  rw [HA.out] at *
  dsimp only at *
  go_wp2_with fail
  refine (tRead_calls b _ (by omega)).mono ?_
  rintro e w2 ⟨v2, rfl, hown2, hb2⟩
  rw [HB.out] at *
  dsimp only at *
  have hbb := one_more hb1 hb2
  replace hown1 := rowOn hown1 hb2
  obtain ⟨x1, k1, rfl⟩ := row_slice hown1
  obtain ⟨x2, k2, rfl⟩ := row_slice hown2
  clear hown1 hown2
  go_wp2_with fail
  refine (awake_calls _).mono ?_
  rintro e w3 ⟨rfl, hb3⟩
  go_wp2
  go_ret
  exact ⟨by simp, one_more hbb hb3⟩

set_option maxRecDepth 100000 in
set_option maxHeartbeats 8000000 in
theorem triplesJoins_longB (a b : ByteArray) (w : World) (hsa : a.size ≤ 140737488351232) (hsb : b.size ≤ 140737488351232) (la lb : List TripL) (na nb ea eb : Int) (ha : ansS a.data.toList = (la, na, ea)) (hb : ansS b.data.toList = (lb, nb, eb)) (hea : (ea != 0) = false) (heb : (eb != 0) = false) (hla : ¬ 2000 < la.length) (hlb : 2000 < lb.length) :
    Calls Try.prog 6 #[.string a, .string b] w fun e w' => e = .returned (.bool true) ∧ Below w.heap.size w w' := by
  have HA := Lib.hid ha
  have HB := Lib.hid hb
  clear ha hb
  have g1 : ¬ (2000 : Int) < (la.length : Int) := by omega
  have g2 : (2000 : Int) < (lb.length : Int) := by omega
  go_enter Try.func6, Try.ntmps6
  go_wp2_with fail
  refine (tRead_calls a _ (by omega)).mono ?_
  rintro e w1 ⟨v1, rfl, hown1, hb1⟩
  rw [HA.out] at *
  dsimp only at *
  go_wp2_with fail
  refine (tRead_calls b _ (by omega)).mono ?_
  rintro e w2 ⟨v2, rfl, hown2, hb2⟩
  rw [HB.out] at *
  dsimp only at *
  have hbb := one_more hb1 hb2
  replace hown1 := rowOn hown1 hb2
  obtain ⟨x1, k1, rfl⟩ := row_slice hown1
  obtain ⟨x2, k2, rfl⟩ := row_slice hown2
  clear hown1 hown2
  go_wp2_with fail
  refine (awake_calls _).mono ?_
  rintro e w3 ⟨rfl, hb3⟩
  go_wp2
  go_ret
  exact ⟨by simp, one_more hbb hb3⟩

/- what is read of both texts, and the two lists one behind the other, are the same -/
set_option maxRecDepth 100000 in
set_option maxHeartbeats 8000000 in
theorem triplesJoins_good (a b : ByteArray) (w : World) (hsa : a.size ≤ 140737488351232) (hsb : b.size ≤ 140737488351232) (la lb : List TripL) (na nb : Int) (ha : ansS a.data.toList = (la, na, 0)) (hb : ansS b.data.toList = (lb, nb, 0)) (hla : ¬ 2000 < la.length) (hlb : ¬ 2000 < lb.length) :
    Calls Try.prog 6 #[.string a, .string b] w fun e w' => e = .returned (.bool true) ∧ Below w.heap.size w w' := by
  obtain ⟨i0, hi, hz0, hz1, hz2⟩ := info_parts info_triple
  have g1 : ¬ (2000 : Int) < (la.length : Int) := by omega
  have g2 : ¬ (2000 : Int) < (lb.length : Int) := by omega
  have hans := ans_join (l := la) (m := lb) ha hb (by omega)
  rw [← bs_add] at hans
  obtain ⟨L, hLL⟩ : ∃ L, la ++ lb = L := ⟨_, rfl⟩
  rw [hLL] at hans
  have hLlen : L.length ≤ 4096 := by rw [← hLL, List.length_append]; omega
  have HLL := Lib.hid hLL
  clear hLL
  have HANS := Lib.hid hans
  have HA := Lib.hid ha
  have HB := Lib.hid hb
  have hsab : (a ++ b).size ≤ 281474976710656 := by rw [Lib.size_eq, bs_add, List.length_append, ← Lib.size_eq, ← Lib.size_eq]; omega
  clear ha hb hans
  go_enter Try.func6, Try.ntmps6
  go_wp2_with fail
  refine (tRead_calls a _ (by omega)).mono ?_
  rintro e w1 ⟨v1, rfl, hown1, hb1⟩
  rw [HA.out] at *
  dsimp only at *
  go_wp2_with fail
  refine (tRead_calls b _ (by omega)).mono ?_
  rintro e w2 ⟨v2, rfl, hown2, hb2⟩
  rw [HB.out] at *
  dsimp only at *
  have hbb := one_more hb1 hb2
  replace hown1 := rowOn hown1 hb2
  clear hb1 hb2
  rcases hown1.2 with ⟨rfl, h0⟩ | ⟨gA, cA, curA, rfl, rA⟩
  · obtain rfl : la = [] := List.eq_nil_of_length_eq_zero h0
    rcases hown2.2 with ⟨rfl, h0'⟩ | ⟨gB, cB, curB, rfl, rB⟩
    · obtain rfl : lb = [] := List.eq_nil_of_length_eq_zero h0'
      clear h0 h0' hla hlb
      go_wp2_with fail
      refine (tRead_calls (a ++ b) _ hsab).mono ?_
      rintro e w3 ⟨v3, rfl, hown3, hb3⟩
      rw [HANS.out] at *
      dsimp only at *
      replace hown1 := rowOn hown1 hb3
      replace hown2 := rowOn hown2 hb3
      replace hbb := one_more hbb hb3
      clear hb3
      have hlt3 := fun g hg => own_lt hown3 g hg
      have hlt2 := fun g hg => own_lt hown2 g hg
      obtain ⟨x3, k3, hv3⟩ := row_slice hown3
      subst hv3
      have hmade := World.ownsRow_made (base := w3.heap.size) (e := 25) (size := 12) w3 #[] 0 (Nat.le_refl _) (by unfold maxLen; omega) rfl
      have HL3 := Lib.hid hlt3
      have HL2 := Lib.hid hlt2
      clear hlt3 hlt2
      have hown4 : (w3.alloc (.cells #[] 25)).ownsRow w3.heap.size 25 12 (.slice (some ⟨w3.heap.size, 0, none⟩) 0 0) ([] : List TripL).length (tripCells []) := hmade
      have hown3' := hown3.alloc (.cells #[] 25)
      have hown2' := hown2.alloc (.cells #[] 25)
      have hb4 : Below w3.heap.size w3 (w3.alloc (.cells #[] 25)) := box_below _ _
      go_wp2_with (first | (at_builtin; refine wpList_append_wanted_none (by kernel_rfl) (.tmp 59) (.tmp 60) 33 rfl w3.heap.size 25 i0 12 Try.underlying33 hi (.slice (some ⟨w3.heap.size, 0, none⟩) 0 0) 0 [] rfl hmade rfl ?_) | (at_builtin; refine wpList_append_wanted_none (by kernel_rfl) (.tmp 61) (.tmp 62) 33 rfl w3.heap.size 25 i0 12 Try.underlying33 hi (.slice (some ⟨w3.heap.size, 0, none⟩) 0 0) ([] : List TripL).length (tripCells []) rfl hown4 rfl ?_))
      have hownS : ((w3.alloc (.cells #[] 25))).ownsRow w3.heap.size 25 12 (.slice (some ⟨w3.heap.size, 0, none⟩) 0 0) ([] ++ [] : List TripL).length (tripCells ([] ++ [])) := by rw [List.append_nil]; exact hown4
      have hown3s := hown3'
      have hb5 := hb4
      rw [HLL.out] at hownS
      refine (Same_calls L _ _ _ (by omega) (reads_of hown3s) (reads_of hownS)).mono ?_
      rintro e w6 ⟨rfl, nn, hw6⟩
      have hbv : Below w.heap.size w w6 := by rw [hw6]; exact below_draws (one_more hbb hb5) nn
      clear hw6
      go_wp2_with fail
      refine (awake_calls _).mono ?_
      rintro e w7 ⟨rfl, hb7⟩
      go_wp2
      go_ret
      exact ⟨by simp, one_more hbv hb7⟩
    · clear h0 rB hla
      go_wp2_with fail
      refine (tRead_calls (a ++ b) _ hsab).mono ?_
      rintro e w3 ⟨v3, rfl, hown3, hb3⟩
      rw [HANS.out] at *
      dsimp only at *
      replace hown1 := rowOn hown1 hb3
      replace hown2 := rowOn hown2 hb3
      replace hbb := one_more hbb hb3
      clear hb3
      have hlt3 := fun g hg => own_lt hown3 g hg
      have hlt2 := fun g hg => own_lt hown2 g hg
      obtain ⟨x3, k3, hv3⟩ := row_slice hown3
      subst hv3
      have hmade := World.ownsRow_made (base := w3.heap.size) (e := 25) (size := 12) w3 #[] 0 (Nat.le_refl _) (by unfold maxLen; omega) rfl
      have HL3 := Lib.hid hlt3
      have HL2 := Lib.hid hlt2
      clear hlt3 hlt2
      have hown4 : (w3.alloc (.cells #[] 25)).ownsRow w3.heap.size 25 12 (.slice (some ⟨w3.heap.size, 0, none⟩) 0 0) ([] : List TripL).length (tripCells []) := hmade
      have hown3' := hown3.alloc (.cells #[] 25)
      have hown2' := hown2.alloc (.cells #[] 25)
      have hb4 : Below w3.heap.size w3 (w3.alloc (.cells #[] 25)) := box_below _ _
      go_wp2_with (first | (at_builtin; refine wpList_append_wanted_none (by kernel_rfl) (.tmp 59) (.tmp 60) 33 rfl w3.heap.size 25 i0 12 Try.underlying33 hi (.slice (some ⟨w3.heap.size, 0, none⟩) 0 0) 0 [] rfl hmade rfl ?_) | (at_builtin; refine wpList_append_wanted (by kernel_rfl) (.tmp 61) (.tmp 62) 33 rfl w3.heap.size 25 i0 noTrip.v 12 168 Try.underlying33 hi hz0 hz1 hz2 rfl (by decide) (.slice (some ⟨w3.heap.size, 0, none⟩) 0 0) ([] : List TripL).length (tripCells []) rfl hown4 ⟨gB, 0, none⟩ lb.length cB (tripCells lb) rfl (tripCells_length lb) (fun j u hu => hown2'.cells (g := gB) rfl j u hu) (tripCells_cell lb) (by unfold maxLen; omega) (by (have : (([] : List TripL)).length ≤ 2000 := by (first | omega | simp)); omega) hb4.size ?_; intro v5 w5 hown5 hgrow5 hnil5; clear hnil5))
      have hownS : w5.ownsRow w3.heap.size 25 12 v5 ([] ++ lb : List TripL).length (tripCells ([] ++ lb)) := by rw [List.length_append, tripCells_append]; exact hown5
      have hown3s := row_kept hown3' hgrow5 (fun k hk => .inr (fun g hg => Nat.lt_of_lt_of_le (HL3.out g hg) (hown4.lt k hk).1))
      have hb5 : Below w3.heap.size w3 w5 := hb4.grown hgrow5 hb4.size (fun k hk => (hown4.lt k hk).1)
      rw [HLL.out] at hownS
      refine (Same_calls L _ _ _ (by omega) (reads_of hown3s) (reads_of hownS)).mono ?_
      rintro e w6 ⟨rfl, nn, hw6⟩
      have hbv : Below w.heap.size w w6 := by rw [hw6]; exact below_draws (one_more hbb hb5) nn
      clear hw6
      go_wp2_with fail
      refine (awake_calls _).mono ?_
      rintro e w7 ⟨rfl, hb7⟩
      go_wp2
      go_ret
      exact ⟨by simp, one_more hbv hb7⟩
  · clear rA
    rcases hown2.2 with ⟨rfl, h0'⟩ | ⟨gB, cB, curB, rfl, rB⟩
    · obtain rfl : lb = [] := List.eq_nil_of_length_eq_zero h0'
      clear h0' hlb
      go_wp2_with fail
      refine (tRead_calls (a ++ b) _ hsab).mono ?_
      rintro e w3 ⟨v3, rfl, hown3, hb3⟩
      rw [HANS.out] at *
      dsimp only at *
      replace hown1 := rowOn hown1 hb3
      replace hown2 := rowOn hown2 hb3
      replace hbb := one_more hbb hb3
      clear hb3
      have hlt3 := fun g hg => own_lt hown3 g hg
      have hlt2 := fun g hg => own_lt hown2 g hg
      obtain ⟨x3, k3, hv3⟩ := row_slice hown3
      subst hv3
      have hmade := World.ownsRow_made (base := w3.heap.size) (e := 25) (size := 12) w3 #[] 0 (Nat.le_refl _) (by unfold maxLen; omega) rfl
      have HL3 := Lib.hid hlt3
      have HL2 := Lib.hid hlt2
      clear hlt3 hlt2
      go_wp2_with (first | (at_builtin; refine wpList_append_wanted (by kernel_rfl) (.tmp 59) (.tmp 60) 33 rfl w3.heap.size 25 i0 noTrip.v 12 168 Try.underlying33 hi hz0 hz1 hz2 rfl (by decide) (.slice (some ⟨w3.heap.size, 0, none⟩) 0 0) 0 [] rfl hmade ⟨gA, 0, none⟩ la.length cA (tripCells la) rfl (tripCells_length la) (fun j u hu => (hown1.alloc _).cells (g := gA) rfl j u hu) (tripCells_cell la) (by unfold maxLen; omega) (by omega) (by simp) ?_; intro v4 w4 hown4 hgrow4 hnil4; clear hnil4; simp only [Nat.zero_add, List.nil_append] at hown4; have hown3' := row_kept (hown3.alloc (.cells #[] 25)) hgrow4 (fun k hk => by (simp only [Value.ownBlock, Option.some.injEq] at hk; exact .inr (fun g hg => by have := HL3.out g hg; omega))); have hown2' := row_kept (hown2.alloc (.cells #[] 25)) hgrow4 (fun k hk => by (simp only [Value.ownBlock, Option.some.injEq] at hk; exact .inr (fun g hg => by have := HL2.out g hg; omega))); have hb4 : Below w3.heap.size w3 w4 := (box_below w3 _).grown hgrow4 (by simp) (fun k hk => by (simp only [Value.ownBlock, Option.some.injEq] at hk; omega)); clear hgrow4; have HO4 := Lib.hid hown4; obtain ⟨x4, k4, hv4⟩ := row_slice hown4; subst hv4) | (at_builtin; refine wpList_append_wanted_none (by kernel_rfl) (.tmp 61) (.tmp 62) 33 rfl w3.heap.size 25 i0 12 Try.underlying33 hi (.slice x4 la.length k4) la.length (tripCells la) rfl hown4 rfl ?_))
      have hownS : (w4).ownsRow w3.heap.size 25 12 (.slice x4 la.length k4) (la ++ [] : List TripL).length (tripCells (la ++ [])) := by rw [List.append_nil]; exact HO4.out
      have hown3s := hown3'
      have hb5 := hb4
      rw [HLL.out] at hownS
      refine (Same_calls L _ _ _ (by omega) (reads_of hown3s) (reads_of hownS)).mono ?_
      rintro e w6 ⟨rfl, nn, hw6⟩
      have hbv : Below w.heap.size w w6 := by rw [hw6]; exact below_draws (one_more hbb hb5) nn
      clear hw6
      go_wp2_with fail
      refine (awake_calls _).mono ?_
      rintro e w7 ⟨rfl, hb7⟩
      go_wp2
      go_ret
      exact ⟨by simp, one_more hbv hb7⟩
    · clear rB
      go_wp2_with fail
      refine (tRead_calls (a ++ b) _ hsab).mono ?_
      rintro e w3 ⟨v3, rfl, hown3, hb3⟩
      rw [HANS.out] at *
      dsimp only at *
      replace hown1 := rowOn hown1 hb3
      replace hown2 := rowOn hown2 hb3
      replace hbb := one_more hbb hb3
      clear hb3
      have hlt3 := fun g hg => own_lt hown3 g hg
      have hlt2 := fun g hg => own_lt hown2 g hg
      obtain ⟨x3, k3, hv3⟩ := row_slice hown3
      subst hv3
      have hmade := World.ownsRow_made (base := w3.heap.size) (e := 25) (size := 12) w3 #[] 0 (Nat.le_refl _) (by unfold maxLen; omega) rfl
      have HL3 := Lib.hid hlt3
      have HL2 := Lib.hid hlt2
      clear hlt3 hlt2
      go_wp2_with (first | (at_builtin; refine wpList_append_wanted (by kernel_rfl) (.tmp 59) (.tmp 60) 33 rfl w3.heap.size 25 i0 noTrip.v 12 168 Try.underlying33 hi hz0 hz1 hz2 rfl (by decide) (.slice (some ⟨w3.heap.size, 0, none⟩) 0 0) 0 [] rfl hmade ⟨gA, 0, none⟩ la.length cA (tripCells la) rfl (tripCells_length la) (fun j u hu => (hown1.alloc _).cells (g := gA) rfl j u hu) (tripCells_cell la) (by unfold maxLen; omega) (by omega) (by simp) ?_; intro v4 w4 hown4 hgrow4 hnil4; clear hnil4; simp only [Nat.zero_add, List.nil_append] at hown4; have hown3' := row_kept (hown3.alloc (.cells #[] 25)) hgrow4 (fun k hk => by (simp only [Value.ownBlock, Option.some.injEq] at hk; exact .inr (fun g hg => by have := HL3.out g hg; omega))); have hown2' := row_kept (hown2.alloc (.cells #[] 25)) hgrow4 (fun k hk => by (simp only [Value.ownBlock, Option.some.injEq] at hk; exact .inr (fun g hg => by have := HL2.out g hg; omega))); have hb4 : Below w3.heap.size w3 w4 := (box_below w3 _).grown hgrow4 (by simp) (fun k hk => by (simp only [Value.ownBlock, Option.some.injEq] at hk; omega)); clear hgrow4; have HO4 := Lib.hid hown4; obtain ⟨x4, k4, hv4⟩ := row_slice hown4; subst hv4) | (at_builtin; refine wpList_append_wanted (by kernel_rfl) (.tmp 61) (.tmp 62) 33 rfl w3.heap.size 25 i0 noTrip.v 12 168 Try.underlying33 hi hz0 hz1 hz2 rfl (by decide) (.slice x4 la.length k4) la.length (tripCells la) rfl hown4 ⟨gB, 0, none⟩ lb.length cB (tripCells lb) rfl (tripCells_length lb) (fun j u hu => hown2'.cells (g := gB) rfl j u hu) (tripCells_cell lb) (by unfold maxLen; omega) (by (have : (la).length ≤ 2000 := by (first | omega | simp)); omega) hb4.size ?_; intro v5 w5 hown5 hgrow5 hnil5; clear hnil5))
      have hownS : w5.ownsRow w3.heap.size 25 12 v5 (la ++ lb : List TripL).length (tripCells (la ++ lb)) := by rw [List.length_append, tripCells_append]; exact hown5
      have hown3s := row_kept hown3' hgrow5 (fun k hk => .inr (fun g hg => Nat.lt_of_lt_of_le (HL3.out g hg) (hown4.lt k hk).1))
      have hb5 : Below w3.heap.size w3 w5 := hb4.grown hgrow5 hb4.size (fun k hk => (hown4.lt k hk).1)
      rw [HLL.out] at hownS
      refine (Same_calls L _ _ _ (by omega) (reads_of hown3s) (reads_of hownS)).mono ?_
      rintro e w6 ⟨rfl, nn, hw6⟩
      have hbv : Below w.heap.size w w6 := by rw [hw6]; exact below_draws (one_more hbb hb5) nn
      clear hw6
      go_wp2_with fail
      refine (awake_calls _).mono ?_
      rintro e w7 ⟨rfl, hb7⟩
      go_wp2
      go_ret
      exact ⟨by simp, one_more hbv hb7⟩

theorem triplesJoins_calls (a b : ByteArray) (w : World) (hsa : a.size ≤ 140737488351232) (hsb : b.size ≤ 140737488351232) :
    Calls Try.prog 6 #[.string a, .string b] w fun e w' => e = .returned (.bool true) ∧ Below w.heap.size w w' := by
  obtain ⟨⟨la, na, ea⟩, ha⟩ : ∃ p, ansS a.data.toList = p := ⟨_, rfl⟩
  obtain ⟨⟨lb, nb, eb⟩, hb⟩ : ∃ p, ansS b.data.toList = p := ⟨_, rfl⟩
  by_cases hea : ea = 0
  · subst hea
    by_cases heb : eb = 0
    · subst heb
      by_cases hla : 2000 < la.length
      · exact triplesJoins_longA a b w hsa hsb la lb na nb 0 0 ha hb rfl rfl hla
      · by_cases hlb : 2000 < lb.length
        · exact triplesJoins_longB a b w hsa hsb la lb na nb 0 0 ha hb rfl rfl hla hlb
        · exact triplesJoins_good a b w hsa hsb la lb na nb ha hb hla hlb
    · exact triplesJoins_badB a b w hsa hsb la lb na nb 0 eb ha hb rfl (by simpa using heb)
  · exact triplesJoins_badA a b w hsa hsb la lb na nb ea eb ha hb (by simpa using hea)

end Go.Proofs.Ythdhoaihmlodjaa
