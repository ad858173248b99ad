/- A message taken out of a pool without being told; a message doubled; how many there are; all, in new memory. -/
import Derived.Test.YtheefhogphlkiaaPolTake
import Derived.Laws.Cover3
namespace Go.Proofs.Ytheefhogphlkiaa
open Go.RowKit

set_option maxRecDepth 100000 in
set_option maxHeartbeats 1000000 in
theorem drop_calls (B P : Nat) (v : Value) (L : List MsgL) (i : Int) (w : World) (h : PoolT w B P v L) :
    Calls Try.prog 22 #[.pointer (some ⟨P, 0, none⟩), .int .i64 i] w (PutT B P v (takeE L i) (takeL L i) w) := by
  have HT := Lib.hid (take_calls B P v L i w h)
  generalize takeE L i = E at HT ⊢
  generalize takeL L i = R at HT ⊢
  generalize takeM L i = m at HT
  go_enter Try.func22, Try.ntmps22
  go_wp2_with fail
  refine HT.out.mono ?_
  rintro e W2 ⟨rfl, v', hp, hm⟩
  have HP := Lib.hid hp
  have HM := Lib.hid hm
  clear hp hm
  go_wp2
  go_ret
  exact ⟨rfl, v', pool_on HP.out (box_below _ _), moved_then HM.out (box_below _ _)⟩

set_option maxRecDepth 100000 in
set_option maxHeartbeats 1000000 in
theorem drop_nil (i : Int) (w : World) : Calls Try.prog 22 #[.pointer none, .int .i64 i] w fun e w' => e = .returned (.int .i64 7) ∧ Below w.heap.size w w' := by
  go_enter Try.func22, Try.ntmps22
  go_wp2_with fail
  refine (take_nil i _).mono ?_
  rintro e W2 ⟨rfl, hb⟩
  have HB := Lib.hid hb
  clear hb
  go_wp2
  go_ret
  exact ⟨rfl, HB.out.alloc HB.out.size _⟩

set_option maxRecDepth 100000 in
set_option maxHeartbeats 1000000 in
theorem double_calls (B P : Nat) (v : Value) (L : List MsgL) (i : Int) (w : World) (h : PoolT w B P v L) :
    Calls Try.prog 18 #[.pointer (some ⟨P, 0, none⟩), .int .i64 i] w (PutT B P v (dblE L i) (dblL L i) w) := by
  have HA := Lib.hid (at_calls B P v L i w h)
  have H := Lib.hid h
  by_cases hi : inB L.length i = true
  · have e0 : takeM L i = L.getD i.toNat noMsg := by unfold takeM; rw [if_pos hi]
    have e1 : takeE L i = 0 := by unfold takeE; rw [if_pos hi]
    have e2 : dblE L i = if 256 ≤ L.length then 3 else 0 := by unfold dblE; rw [if_pos hi]
    have e3 : dblL L i = if 256 ≤ L.length then L else L ++ [takeM L i] := by unfold dblL; rw [if_pos hi, e0]
    have hr : rightM (takeM L i) = true := by rw [e0]; exact ok_at h.ok (in_lt hi).1
    rw [e1] at HA
    rw [e2, e3]
    generalize takeM L i = m at HA hr ⊢
    have HP := Lib.hid (fun W (hW : PoolT W B P v L) => put_calls B P v L m W hW hr)
    generalize (if 256 ≤ L.length then (3 : Int) else 0) = E at HP ⊢
    generalize (if 256 ≤ L.length then L else L ++ [m]) = R at HP ⊢
    clear e0 e1 e2 e3 hr hi h
    go_enter Try.func18, Try.ntmps18
    go_wp2_with fail
    refine HA.out.mono ?_
    rintro e W2 ⟨rfl, hb⟩
    have HB3 := Lib.hid (hb.alloc hb.size (.cells #[.int .i64 m.f, .int .i64 m.t, .string m.b] 29))
    clear hb
    go_wp2_with fail
    refine (HP.out _ (pool_on H.out HB3.out)).mono ?_
    intro e W3 h3
    have H4 := Lib.hid (put_first HB3.out h3)
    obtain ⟨rfl, _⟩ := h3
    go_wp2
    go_ret
    exact H4.out
  · have e1 : takeE L i = 4 := by unfold takeE; rw [if_neg hi]
    have e2 : dblE L i = 4 := by unfold dblE; rw [if_neg hi]
    have e3 : dblL L i = L := by unfold dblL; rw [if_neg hi]
    rw [e1] at HA
    rw [e2, e3]
    generalize takeM L i = m at HA
    clear e1 e2 e3 hi h
    go_enter Try.func18, Try.ntmps18
    go_wp2_with fail
    refine HA.out.mono ?_
    rintro e W2 ⟨rfl, hb⟩
    have HB3 := Lib.hid (hb.alloc hb.size (.cells #[.int .i64 m.f, .int .i64 m.t, .string m.b] 29))
    clear hb
    go_wp2
    go_ret
    exact ⟨rfl, v, pool_on H.out HB3.out, moved_of HB3.out⟩

set_option maxRecDepth 100000 in
set_option maxHeartbeats 1000000 in
theorem double_nil (i : Int) (w : World) : Calls Try.prog 18 #[.pointer none, .int .i64 i] w fun e w' => e = .returned (.int .i64 7) ∧ Below w.heap.size w w' := by
  go_enter Try.func18, Try.ntmps18
  go_wp2_with fail
  refine (at_nil i _).mono ?_
  rintro e W2 ⟨rfl, hb⟩
  have HB := Lib.hid hb
  clear hb
  go_wp2
  go_ret
  exact ⟨rfl, HB.out.alloc HB.out.size _⟩

set_option maxHeartbeats 1000000 in
theorem len_calls (B P : Nat) (v : Value) (L : List MsgL) (w : World) (h : PoolT w B P v L) :
    Calls Try.prog 12 #[.pointer (some ⟨P, 0, none⟩)] w fun e w' => e = .returned (.int .i64 L.length) ∧ w' = w := by
  have c0 := h.cell
  obtain ⟨va, vc, rfl⟩ := own_slice h.own
  clear h
  go_enter Try.func12, Try.ntmps12
  go_wp2
  go_ret
  exact ⟨rfl, rfl⟩
set_option maxHeartbeats 1000000 in
theorem len_nil (w : World) : Calls Try.prog 12 #[.pointer none] w fun e w' => e = .returned (.int .i64 0) ∧ w' = w := by
  go_enter Try.func12, Try.ntmps12
  go_wp2
  go_ret
  exact ⟨rfl, rfl⟩

theorem eql_row (a : Option Addr) (n c : Nat) (W : World) : (binOp .eql 53 (.slice a n c) (.slice none 0 0)).run Try.prog W = .ok (.bool a.isNone) W := by
  simp only [binOp]
  simp [run_equal_slice_nil W 53 29 a n c Try.underlying53]
/- all messages, told in new memory -/
def AllT (L : List MsgL) (w : World) (e : Ending) (w' : World) : Prop := ∃ x, e = .returned x ∧ Own w' w.heap.size x L ∧ Below w.heap.size w w'
set_option maxRecDepth 100000 in
set_option maxHeartbeats 1000000 in
theorem clone_calls (B : Nat) (v : Value) (L : List MsgL) (w : World) (h : Own w B v L) (hL : L.length ≤ 100000) :
    Calls Try.prog 26 #[v] w (AllT L w) := by
  obtain ⟨i0, hi, hz0, hz1, hz2⟩ := info_parts info_msg
  have heq := eql_row
  rcases h.2 with ⟨rfl, h0⟩ | ⟨g, cap, cur, rfl, _, _⟩
  · have : L = [] := List.eq_nil_of_length_eq_zero h0
    subst this
    go_enter Try.func26, Try.ntmps26
    go_wp2
    go_ret
    exact ⟨_, rfl, ⟨rfl, .inl ⟨rfl, rfl⟩⟩, Below.refl _ _⟩
  · have hc := World.ownsRow.cells h (g := g) rfl
    have hl := cellsM_length L
    have ho := cellsM_one' L
    obtain ⟨cs, hcs⟩ : ∃ cs, cellsM L = cs := ⟨_, rfl⟩
    obtain ⟨N, hN⟩ : ∃ N, L.length = N := ⟨_, rfl⟩
    rw [hcs, hN] at hl
    rw [hcs] at hc ho
    rw [hN] at hL ⊢
    have HC := Lib.hid (show ∀ j u, cs[j]? = some u → (w.alloc (.cells #[] 29)).cell? ((⟨g, 0, none⟩ : Addr).add j) = some u from fun j u hj => by
      have := hc j u hj
      rw [add_at0] at this ⊢
      exact keptC this (box_below _ _) (cell_lt this))
    have HL := Lib.hid hl
    have HO := Lib.hid ho
    have HCS := Lib.hid hcs
    have HN := Lib.hid hN
    have hst := Lib.hid (show (w.alloc (.cells #[] 29)).ownsRow w.heap.size 29 3 (.slice (some ⟨w.heap.size, 0, none⟩) 0 0) 0 [] from World.ownsRow_made w #[] 0 (Nat.le_refl _) (Nat.zero_le _) rfl)
    clear hc hl ho hcs hN h
    go_enter Try.func26, Try.ntmps26
    go_wp2_with (refine wpList_append_own _ rfl (.tmp 5) (.tmp 6) 53 rfl w.heap.size 29 i0 (.agg #[.int .i64 0, .int .i64 0, .string ⟨#[]⟩]) 3 32 Try.underlying53 hi hz0 hz1 hz2 rfl (by decide) (.slice (some ⟨w.heap.size, 0, none⟩) 0 0) 0 [] rfl hst.out ⟨g, 0, none⟩ N cap cs rfl HL.out HC.out HO.out (by unfold maxLen; omega) (by omega) (by simp) ?_; intro x W3 hown hgr _; have HO3 := Lib.hid hown; have HG3 := Lib.hid hgr; clear hown hgr)
    go_ret
    have ho := HO3.out
    rw [Nat.zero_add, List.nil_append] at ho
    refine ⟨_, rfl, ?_, ?_⟩
    · show World.ownsRow _ _ _ _ _ _ _
      rw [HCS.out, HN.out]; exact ho
    · exact (box_below w (.cells #[] 29)).grown HG3.out (by simp) (fun k hk => by simp only [Value.ownBlock, Option.some.injEq] at hk; omega)

set_option maxRecDepth 100000 in
set_option maxHeartbeats 1000000 in
theorem all_calls (B P : Nat) (v : Value) (L : List MsgL) (w : World) (h : PoolT w B P v L) :
    Calls Try.prog 11 #[.pointer (some ⟨P, 0, none⟩)] w (AllT L w) := by
  have c0 := h.cell
  have HC := Lib.hid (clone_calls B v L w h.own (by have := h.ok.2; omega))
  obtain ⟨va, vc, rfl⟩ := own_slice h.own
  clear h
  go_enter Try.func11, Try.ntmps11
  go_wp2_with fail
  refine HC.out.mono ?_
  rintro e W2 ⟨x, rfl, hown, hb⟩
  have HO := Lib.hid hown
  have HB := Lib.hid hb
  clear hown hb
  go_wp2
  go_ret
  exact ⟨_, rfl, HO.out, HB.out⟩
set_option maxHeartbeats 1000000 in
theorem all_nil (w : World) : Calls Try.prog 11 #[.pointer none] w fun e w' => e = .returned (.slice none 0 0) ∧ w' = w := by
  go_enter Try.func11, Try.ntmps11
  go_wp2
  go_ret
  exact ⟨rfl, rfl⟩

end Go.Proofs.Ytheefhogphlkiaa
