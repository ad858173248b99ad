/- The document's Take and Double: the messages without one, one more, in new memory (written by gen/mkrpoltake.py). -/
import Derived.Test.YtheefhogphlkiaaRPolSend
namespace Go.Proofs.Ytheefhogphlkiaa
open Go.RowKit

theorem src_take {w : World} {B g k c cap : Nat} {L : List MsgL} (h : Own w B (.slice (some ⟨g, 0, none⟩) L.length cap) L) (hk : k < L.length) : Src w (.slice (some ⟨g, 0, none⟩) k c) (L.take k) := by
  have hl : (L.take k).length = k := by rw [List.length_take]; omega
  refine .inr ⟨_, c, by rw [hl], fun j u hj => World.ownsRow.cells h (g := g) rfl j u ?_⟩
  rw [cellsM_three L k hk, List.append_assoc, List.getElem?_append_left (List.getElem?_eq_some_iff.1 hj).1]; exact hj
theorem src_drop {w : World} {B g k c cap : Nat} {L : List MsgL} (h : Own w B (.slice (some ⟨g, 0, none⟩) L.length cap) L) (hk : k < L.length) (hc : L.length ≤ cap) : Src w (.slice (some (if cap = k + 1 then (⟨g, 0, none⟩ : Addr) else ⟨g, (k + 1) * 3, none⟩)) (L.length - (k + 1)) c) (L.drop (k + 1)) := by
  refine .inr ⟨_, c, by rw [List.length_drop], fun j u hj => ?_⟩
  by_cases hd : cap = k + 1
  · have : L.drop (k + 1) = [] := List.drop_eq_nil_of_le (by omega)
    rw [this] at hj
    exact absurd hj (by simp [cellsM])
  · rw [if_neg hd]
    have := World.ownsRow.cells h (g := g) rfl ((k + 1) * 3 + j) u (by
      have hl : (cellsM (L.take k) ++ L[k].cs).length = (k + 1) * 3 := by rw [List.length_append, cellsM_length, List.length_take, show L[k].cs.length = 3 from rfl]; omega
      rw [cellsM_three L k hk, List.getElem?_append_right (by omega), hl, Nat.add_sub_cancel_left]; exact hj)
    rw [add_at0] at this ⊢
    rw [Nat.zero_add] at this
    exact this
theorem src_kept {w w' : World} {x : Value} {R : List MsgL} {g : Nat} (h : Src w x R) (hx : ∀ a n c, x = .slice (some a) n c → a.block = g ∧ a.spot = none) (hb : w'.heap[g]? = w.heap[g]?) : Src w' x R := by
  rcases h with h | ⟨ad, c, he, hc⟩
  · exact .inl h
  · refine .inr ⟨ad, c, he, fun j u hj => ?_⟩
    obtain ⟨h1, h2⟩ := hx _ _ _ he
    obtain ⟨b, o, s⟩ := ad
    dsimp only at h1 h2
    subst h1 h2
    have := hc j u hj
    rw [add_at0] at this ⊢
    rw [World.cell?_of_block (w := w) hb]; exact this
theorem rtake_ret (tm : Array Value) (W : World) (D : Nat) (x' : Value) (f t : Int) (b : ByteArray) (E : Int) (Q : Ending → World → Prop) (h3 : tm.getD 4 undef = x') (h4 : tm.getD 5 undef = .pointer (some ⟨D, 0, none⟩)) (h5 : tm.getD 6 undef = .int .i64 E) (hD : Blk W D 29 #[.int .i64 f, .int .i64 t, .string b])
    (hQ : Q (.returned (.tuple #[x', .agg #[.int .i64 f, .int .i64 t, .string b], .int .i64 E])) W) : bodyPost Try.prog Try.f24 Q Exit.ret { tmps := tm, defers := [] } W := by
  have q0 : W.cell? ⟨D, 0, none⟩ = some (.int .i64 f) := by rw [blk_cell hD]; rfl
  have q1 : W.cell? ⟨D, 1, none⟩ = some (.int .i64 t) := by rw [blk_cell hD]; rfl
  have q2 : W.cell? ⟨D, 2, none⟩ = some (.string b) := by rw [blk_cell hD]; rfl
  have e3 : tm[4]?.getD undef = x' := by rw [← Array.getD_eq_getD_getElem?]; exact h3
  have e4 : tm[5]?.getD undef = .pointer (some ⟨D, 0, none⟩) := by rw [← Array.getD_eq_getD_getElem?]; exact h4
  have e5 : tm[6]?.getD undef = .int .i64 E := by rw [← Array.getD_eq_getD_getElem?]; exact h5
  refine bodyPost_ret (v := .tuple #[x', .agg #[.int .i64 f, .int .i64 t, .string b], .int .i64 E]) (by simp [results, Try.results24, e3, e4, e5, q0, q1, q2, go_sem]) rfl hQ
theorem wp_whole_abs {o : Oper} {a : Act} {w : World} {K : Act → World → Prop} {Q : Exit → Act → World → Prop} (ty : TypeId) (x y : Operand) (ho : o.op = .store ty x y)
    (g : Nat) (cells : Array Value) (hx : a.eval x = .pointer (some ⟨g, 0, none⟩)) (hy : a.eval y = .agg cells) (T : TypeId) (old : Array Value) (hg : Blk w g T old) (hi : (Try.prog.info? ty).map (·.size) = some cells.size)
    (hold : old.size = cells.size) (h1 : cells.all (·.oneCell') = true)
    (h : ∀ w', Blk w' g T cells → w.grownBy w' (some g) → K (a.put o.dst undef) w') : Oper.wp Try.prog o a w K Q :=
  wp_store_row ty x y ho g cells hx hy T old hg hi hold h1 (h _ (blk_row hg cells) (grown_set _ _ _))
theorem msg_grown {w w' : World} {g o : Nat} {m : MsgL} {row : Option Nat} (h : Msg3 w g o m) (hg : w.grownBy w' row) (hne : some g ≠ row) : Msg3 w' g o m :=
  ⟨hg.cell h.1 hne, hg.cell h.2.1 hne, hg.cell h.2.2 hne⟩

/- what the document's Take leaves -/
def RTakeT (B : Nat) (x : Value) (m : MsgL) (E : Int) (L' : List MsgL) (w : World) (e : Ending) (w' : World) : Prop := ∃ x', e = .returned (.tuple #[x', .agg #[.int .i64 m.f, .int .i64 m.t, .string m.b], .int .i64 E]) ∧ NewRow B x L' w x' w'

set_option maxRecDepth 100000 in
set_option maxHeartbeats 4000000 in
theorem rTake_calls (B : Nat) (x : Value) (L : List MsgL) (i : Int) (w : World) (h : Own w B x L) (hB : B ≤ w.heap.size) (hL : L.length ≤ 256) :
    Calls Try.prog 24 #[x, .int .i64 i] w (RTakeT B x (takeM L i) (takeE L i) (takeL L i) w) := by
  obtain ⟨D, hD⟩ : ∃ D, w.heap.size = D := ⟨_, rfl⟩
  obtain ⟨W1, hW1⟩ : ∃ W1, w.alloc (.cells #[.int .i64 0, .int .i64 0, .string ⟨#[]⟩] 29) = W1 := ⟨_, rfl⟩
  have HB := Lib.hid (show Below w.heap.size w W1 by rw [← hW1]; exact box_below _ _)
  have HK := Lib.hid (show Blk W1 D 29 #[.int .i64 0, .int .i64 0, .string ⟨#[]⟩] by rw [← hW1, ← hD]; exact blk_new _ _ _)
  have H := Lib.hid h
  have HBW := Lib.hid hB
  obtain ⟨N, hN⟩ : ∃ N, L.length = N := ⟨_, rfl⟩
  have HN := Lib.hid hN
  have HW1 := Lib.hid hW1
  have HD := Lib.hid hD
  by_cases hi : inB L.length i = true
  · have e1 : takeE L i = 0 := by unfold takeE; rw [if_pos hi]
    have e2 : takeL L i = L.take i.toNat ++ L.drop (i.toNat + 1) := by unfold takeL; rw [if_pos hi]
    have e3 : takeM L i = L.getD i.toNat noMsg := by unfold takeM; rw [if_pos hi]
    rw [e1, e2, e3]
    obtain ⟨j1, j2⟩ := in_lt hi
    obtain ⟨k, hk⟩ : ∃ k, i.toNat = k := ⟨_, rfl⟩
    rw [hk] at j1 j2 ⊢
    subst j2
    obtain ⟨va, cap, rfl, hcap, hmax, hrow⟩ := own_open h
    obtain ⟨g, rfl, hgB, hgl, hm⟩ := hrow (by omega)
    rw [show L.getD k noMsg = L[k] by rw [List.getD_eq_getElem?_getD, List.getElem?_eq_getElem j1]; rfl]
    have hc := Lib.hid (hm k j1)
    have HT := Lib.hid (src_take (c := cap) h j1)
    have HDR := Lib.hid (src_drop (c := cap - (k + 1)) h j1 hcap)
    have HL2 := Lib.hid (show (L.take k).length = k ∧ (L.drop (k + 1)).length = N - (k + 1) by rw [List.length_take, List.length_drop]; omega)
    obtain ⟨DA, hDA⟩ : ∃ DA, (if cap = k + 1 then (⟨g, 0, none⟩ : Addr) else ⟨g, (k + 1) * 3, none⟩) = DA := ⟨_, rfl⟩
    rw [hDA] at HDR
    have HDA := Lib.hid hDA
    have HDS := Lib.hid (show ∀ a n c, Value.slice (some DA) (N - (k + 1)) (cap - (k + 1)) = .slice (some a) n c → a.block = g ∧ a.spot = none from fun a n c e => by
      injection e with e; injection e with e; subst e; rw [← hDA]; split <;> exact ⟨rfl, rfl⟩)
    generalize L[k] = m at hc ⊢
    obtain ⟨f, t, b⟩ := m
    have HGL := Lib.hid hgl
    rw [hN] at hcap j1 HDR hL ⊢
    have g1 : ¬ (k : Int) < 0 := by omega
    have g2 : ¬ (N : Int) ≤ (k : Int) := by omega
    have g3 : (0 : Int) ≤ (k : Int) := by omega
    have g4 : (k : Int) ≤ (cap : Int) := by omega
    have g5 : (k : Int) < (N : Int) := by omega
    have i6 : IntKind.i64.wrap ((k : Int) + 1) = ((k + 1 : Nat) : Int) := by rw [show (k : Int) + 1 = ((k + 1 : Nat) : Int) by omega]; exact wrap_small (k + 1) (by omega)
    have HJ := Lib.hid j1
    have HCP := Lib.hid hcap
    have HDW := Lib.hid (show w.heap.size ≤ D by omega)
    have HDg := Lib.hid (show D ≠ g by omega)
    -- W2: the new empty row
    obtain ⟨W2, hW2⟩ : ∃ W2, W1.alloc (.cells #[] 29) = W2 := ⟨_, rfl⟩
    obtain ⟨X, hX⟩ : ∃ X, W1.heap.size = X := ⟨_, rfl⟩
    have HB2 := Lib.hid (show Below w.heap.size w W2 by rw [← hW2]; exact HB.out.alloc HB.out.size _)
    have HE2 := Lib.hid (show Own W2 X (.slice (some ⟨X, 0, none⟩) 0 0) [] by rw [← hW2, ← hX]; exact own_empty W1)
    have HK2 := Lib.hid (show Blk W2 D 29 #[.int .i64 0, .int .i64 0, .string ⟨#[]⟩] by rw [← hW2]; exact blk_on HK.out (box_below _ _) (blk_lt HK.out))
    have hs6 : W1.heap.size ≤ W2.heap.size := by rw [← hW2]; exact (box_below _ _).size
    have hs7 : W1.heap.size = w.heap.size + 1 := by rw [← hW1]; simp
    have HXD := Lib.hid (show D < X ∧ w.heap.size ≤ X ∧ X ≤ W2.heap.size by omega)
    have hX2 := hs7.symm.trans hX
    have HT2 := Lib.hid (src_kept HT.out (fun a n c e => by injection e with e; injection e with e; subst e; exact ⟨rfl, rfl⟩) (HB2.out.block g hgl))
    have hW2' := Lib.hid hW2
    have hX' := Lib.hid hX2
    clear hi hk e1 e2 e3 hm hrow hgB hgl hD hW1 hN h hB hDA hmax hW2 hX hX2 hs6 hs7 j1 hcap
    go_enter Try.func24, Try.ntmps24
    go_wp2_with (refine msg_append (.tmp 18) (.tmp 21) ⟨rfl, rfl⟩ X (.slice (some ⟨X, 0, none⟩) 0 0) [] (by rw [← hX'.out]; kernel_rfl) (by rw [HW1.out, hW2'.out]; exact HE2.out) _ (L.take k) rfl (by rw [HW1.out, hW2'.out]; exact HT2.out) (by rw [HL2.out.1]; show 0 + k ≤ _; omega) (by rw [HW1.out, hW2'.out]; exact HXD.out.2.2) ?_; intro v3 w3 hO3 hG3; rw [List.nil_append] at hO3; rw [HW1.out, hW2'.out] at hG3)
    rw [HD.out]
    have HB3 := Lib.hid (HB2.out.grown hG3.out HB2.out.size (fun q hq => Nat.le_trans HXD.out.2.1 (own_lt HE2.out q hq).1))
    have HK3 := Lib.hid (blk_grown HK2.out hG3.out (fun e => by have e2 : D = X := Option.some.inj e; have := HXD.out.1; omega))
    have HV3 := Lib.hid (show ∀ q, v3.ownBlock = some q → X ≤ q ∧ q < w3.heap.size from own_lt hO3.out)
    have HM3 := Lib.hid (Msg3.on hc.out HB3.out HGL.out)
    have HDR3 := Lib.hid (src_kept HDR.out HDS.out (HB3.out.block g HGL.out))
    have HX3 := Lib.hid (show X ≤ w3.heap.size from Nat.le_trans HXD.out.2.2 hG3.out.size)
    have HVD := Lib.hid (show v3.ownBlock ≠ some D from fun e => by have := (HV3.out D e).1; have := HXD.out.1; omega)
    clear hc
    refine wp_region_held_drew (S := (fun W => Msg3 W g (k * 3) ⟨f, t, b⟩)) (by kernel_rfl) ?_ (fun hHeld => ?_)
    · (try dsimp only); exact HM3.out
    obtain ⟨Wd, hWd⟩ : ∃ Wd, w3.drew = Wd := ⟨_, rfl⟩
    rw [hWd] at hHeld ⊢
    have HBd := Lib.hid (show Below w3.heap.size w3 Wd by rw [← hWd]; exact (Below.refl _ _).drew)
    clear hWd
    refine wpAnyH_take (i := 0) (oi := ⟨some 23, _, _, _, _, _⟩) (v := ?_) rfl (by kernel_rfl) (by kernel_rfl) (by kernel_rfl) (fun _ _ _ h => h) (Or.inl ⟨by kernel_rfl, ?_⟩) (by assumption) ?_
    rotate_left
    · (intro ww hSw; (try dsimp only at hSw); go_simp); (try with_reducible rfl)
    (try simp only [Act.put, List.setIfInBounds_toArray, List.set_cons_zero, List.set_cons_succ])
    refine wpAnyH_take (i := 1) (oi := ⟨some 24, _, _, _, _, _⟩) (v := ?_) rfl (by kernel_rfl) (by kernel_rfl) (by kernel_rfl) (fun _ _ _ h => h) (Or.inl ⟨by kernel_rfl, ?_⟩) (by assumption) ?_
    rotate_left
    · (intro ww hSw; (try dsimp only at hSw); go_simp); (try with_reducible rfl)
    (try simp only [Act.put, List.setIfInBounds_toArray, List.set_cons_zero, List.set_cons_succ])
    refine wpAnyH_take (i := 2) (oi := ⟨some 25, _, _, _, _, _⟩) (v := ?_) rfl (by kernel_rfl) (by kernel_rfl) (by kernel_rfl) (fun _ _ _ h => h) (Or.inl ⟨by kernel_rfl, ?_⟩) (by assumption) ?_
    rotate_left
    · (intro ww hSw; (try dsimp only at hSw); go_simp); (try with_reducible rfl)
    (try simp only [Act.put, List.setIfInBounds_toArray, List.set_cons_zero, List.set_cons_succ])
    refine wpAnyH_take (i := 3) (oi := ⟨some 26, _, _, _, _, _⟩) (v := .int .i64 ((k + 1 : Nat) : Int)) rfl (by kernel_rfl) (by kernel_rfl) (by kernel_rfl) (fun _ _ _ h => h) (Or.inl ⟨by kernel_rfl, ?_⟩) (by assumption) ?_
    · (intro ww hSw; (try dsimp only at hSw); go_simp; (try simp [i6]))
    (try simp only [Act.put, List.setIfInBounds_toArray, List.set_cons_zero, List.set_cons_succ])
    refine wpAnyH_take (i := 4) (oi := ⟨some 27, _, _, _, _, _⟩) (v := .slice (some DA) (N - (k + 1)) (cap - (k + 1))) rfl (by kernel_rfl) (by kernel_rfl) (by kernel_rfl) (fun _ _ _ h => h) (Or.inl ⟨by kernel_rfl, ?_⟩) (by assumption) ?_
    · (intro ww hSw; (try dsimp only at hSw); have h1 : (0 : Int) ≤ (k : Int) + 1 := (by omega); have h2 : (k : Int) + 1 ≤ (N : Int) := (by omega); rw [← HDA.out]; go_simp; (try simp); (try (split <;> rfl)))
    (try simp only [Act.put, List.setIfInBounds_toArray, List.set_cons_zero, List.set_cons_succ])
    refine wpAnyH_take (i := 6) (oi := ⟨some 29, _, _, _, _, _⟩) (v := ?_) rfl (by kernel_rfl) (by kernel_rfl) (by kernel_rfl) (fun _ _ _ h => h) (Or.inl ⟨by kernel_rfl, ?_⟩) (by assumption) ?_
    rotate_left
    · (intro ww hSw; (try dsimp only at hSw); go_simp); (try with_reducible rfl)
    (try simp only [Act.put, List.setIfInBounds_toArray, List.set_cons_zero, List.set_cons_succ])
    refine wpAnyH_take (i := 7) (oi := ⟨some 30, _, _, _, _, _⟩) (v := ?_) rfl (by kernel_rfl) (by kernel_rfl) (by kernel_rfl) (fun _ _ _ h => h) (Or.inl ⟨by kernel_rfl, ?_⟩) (by assumption) ?_
    rotate_left
    · (intro ww hSw; (try dsimp only at hSw); go_simp); (try with_reducible rfl)
    (try simp only [Act.put, List.setIfInBounds_toArray, List.set_cons_zero, List.set_cons_succ])
    refine wpAnyH_take (i := 8) (oi := ⟨some 31, _, _, _, _, _⟩) (v := .pointer (some ⟨g, k * 3, none⟩)) rfl (by kernel_rfl) (by kernel_rfl) (by kernel_rfl) (fun _ _ _ h => h) (Or.inl ⟨by kernel_rfl, ?_⟩) (by assumption) ?_
    · (intro ww hSw; (try dsimp only at hSw); go_simp)
    (try simp only [Act.put, List.setIfInBounds_toArray, List.set_cons_zero, List.set_cons_succ])
    refine wpAnyH_take (i := 9) (oi := ⟨some 32, _, _, _, _, _⟩) (v := ?_) rfl (by kernel_rfl) (by kernel_rfl) (by kernel_rfl) (fun _ _ _ h => h) (Or.inl ⟨by kernel_rfl, ?_⟩) (by assumption) ?_
    rotate_left
    · (intro ww hSw; (try dsimp only at hSw); obtain ⟨d0, d1, d2⟩ := hSw; go_simp); (try with_reducible rfl)
    (try simp only [Act.put, List.setIfInBounds_toArray, List.set_cons_zero, List.set_cons_succ])
    refine wpAnyH_ready (rs := [5]) (by kernel_rfl) (by simp) ?_
    refine AllReadyH.cons rfl (fun K hK => ?_) AllReadyH.nil
    refine wp_msg_append (.tmp 23) (.tmp 27) rfl X v3 (L.take k) (by kernel_rfl) (own_on hO3.out HBd.out) (.slice (some DA) (N - (k + 1)) (cap - (k + 1))) (L.drop (k + 1)) (by kernel_rfl) (src_kept HDR3.out HDS.out (HBd.out.block g (Nat.lt_of_lt_of_le HGL.out HB3.out.size))) (by rw [HL2.out.1, HL2.out.2]; omega) (Nat.le_trans HX3.out HBd.out.size) ?_
    intro v4 w4 hO4 hG4
    have HO4 := Lib.hid hO4
    have HB4 := Lib.hid (((HB3.out.trans (HBd.out.mono HB3.out.size))).grown hG4 (Nat.le_trans HB3.out.size HBd.out.size) (fun q hq => Nat.le_trans HXD.out.2.1 (HV3.out q hq).1))
    have HM4 := Lib.hid (msg_grown (HM3.out.on HBd.out (Nat.lt_of_lt_of_le HGL.out HB3.out.size)) hG4 (fun e => by have := (HV3.out g e.symm).1; have := HGL.out; have := HXD.out.2.1; omega))
    have HK4 := Lib.hid (blk_grown (blk_on HK3.out HBd.out (blk_lt HK3.out)) hG4 (fun e => HVD.out e.symm))
    clear hO4 hG4
    change K (Act.put _ (some 28) _) _
    refine hK.out _ _ ?_ (fun hHeld => ?_)
    · (try dsimp only); exact HM4.out
    clear hK K
    (try simp only [Act.put, List.setIfInBounds_toArray, List.set_cons_zero, List.set_cons_succ])
    refine wpAnyH_take (i := 10) (oi := ⟨some 4, _, _, _, _, _⟩) (v := ?_) rfl (by kernel_rfl) (by kernel_rfl) (by kernel_rfl) (fun _ _ _ h => h) (Or.inl ⟨by kernel_rfl, ?_⟩) (by assumption) ?_
    rotate_left
    · (intro ww hSw; (try dsimp only at hSw); go_simp); (try with_reducible rfl)
    (try simp only [Act.put, List.setIfInBounds_toArray, List.set_cons_zero, List.set_cons_succ])
    refine wpAnyH_ready (rs := [11]) (by kernel_rfl) (by simp) ?_
    refine AllReadyH.cons rfl (fun K hK => ?_) AllReadyH.nil
    refine wp_whole_abs 29 (.tmp 5) (.tmp 32) rfl D #[.int .i64 f, .int .i64 t, .string b] (by kernel_rfl) (by kernel_rfl) 29 #[.int .i64 0, .int .i64 0, .string ⟨#[]⟩] HK4.out (by kernel_rfl) rfl (msg_one _ _ _) ?_
    intro w5 hK5 hG5
    have HK5 := Lib.hid hK5
    have HB5 := Lib.hid (HB4.out.grown hG5 HB4.out.size (fun q hq => by injection hq with hq; have := HDW.out; omega))
    have HO5 := Lib.hid (show Own w5 X v4 (L.take k ++ L.drop (k + 1)) from HO4.out.kept hG5 (.inr fun e => by have := (own_lt HO4.out D e).1; have := HXD.out.1; omega))
    have HM5 := Lib.hid (msg_grown HM4.out hG5 (fun e => HDg.out (Option.some.inj e).symm))
    clear hK5 hG5
    change K (Act.put _ none _) _
    refine hK.out _ _ ?_ (fun hHeld => ?_)
    · (try dsimp only); exact HM5.out
    clear hK K
    (try simp only [Act.put])
    refine wpAnyH_take (i := 12) (oi := ⟨some 6, _, _, _, _, _⟩) (v := ?_) rfl (by kernel_rfl) (by kernel_rfl) (by kernel_rfl) (fun _ _ _ h => h) (Or.inl ⟨by kernel_rfl, ?_⟩) (by assumption) ?_
    rotate_left
    · (intro ww hSw; (try dsimp only at hSw); go_simp); (try with_reducible rfl)
    (try simp only [Act.put, List.setIfInBounds_toArray, List.set_cons_zero, List.set_cons_succ])
    refine wpAnyH_done (by kernel_rfl) ?_ _
    go_wp2
    exact rtake_ret _ _ D v4 _ _ _ _ _ rfl rfl rfl HK5.out ⟨v4, rfl, own_base HO5.out (Nat.le_trans HBW.out HXD.out.2.1), .inr fun q hq => Nat.le_trans HXD.out.2.1 (own_lt HO5.out q hq).1, HB5.out⟩
  · have e1 : takeE L i = 4 := by unfold takeE; rw [if_neg hi]
    have e2 : takeL L i = L := by unfold takeL; rw [if_neg hi]
    have e3 : takeM L i = noMsg := by unfold takeM; rw [if_neg hi]
    rw [e1, e2, e3]
    have hf : inB N i = false := by rw [← hN]; simpa using hi
    obtain ⟨va, cap, rfl⟩ := own_slice h
    rw [hN]
    show Calls _ _ _ _ (RTakeT B (.slice va N cap) ⟨0, 0, ⟨#[]⟩⟩ 4 L w)
    have HO1 := Lib.hid (own_on h (box_below w (.cells #[.int .i64 0, .int .i64 0, .string ⟨#[]⟩] 29)))
    rw [hN] at HO1
    clear hD hN h hB e1 e2 e3 hi hW1
    by_cases g1 : i < 0
    · clear hf
      go_enter Try.func24, Try.ntmps24
      go_wp2
      refine bodyPost_ret (v := .tuple #[.slice va N cap, .agg #[.int .i64 0, .int .i64 0, .string ⟨#[]⟩], .int .i64 4]) (by simp [results, Try.results24, go_sem]) rfl ⟨_, rfl, HO1.out, .inl rfl, box_below _ _⟩
    · have g2 : (N : Int) ≤ i := by
        have := of_decide_eq_false hf
        omega
      clear hf
      go_enter Try.func24, Try.ntmps24
      go_wp2
      refine bodyPost_ret (v := .tuple #[.slice va N cap, .agg #[.int .i64 0, .int .i64 0, .string ⟨#[]⟩], .int .i64 4]) (by simp [results, Try.results24, go_sem]) rfl ⟨_, rfl, HO1.out, .inl rfl, box_below _ _⟩

end Go.Proofs.Ytheefhogphlkiaa
