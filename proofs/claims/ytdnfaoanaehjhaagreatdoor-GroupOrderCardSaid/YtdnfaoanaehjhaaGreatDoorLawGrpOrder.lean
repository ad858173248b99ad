/- The order of rows says nothing of groups: the walk of the statement's function (written by gen/mklaw13.py). -/
import Derived.Test.YtdnfaoanaehjhaaGreatDoorH27
import Derived.Test.YtdnfaoanaehjhaaGreatDoorGrpGroup
import Derived.Test.YtdnfaoanaehjhaaGreatDoorH18
import Derived.Test.YtdnfaoanaehjhaaGreatDoorH29
import Derived.Test.YtdnfaoanaehjhaaGreatDoorH13
import Derived.Test.YtdnfaoanaehjhaaGreatDoorShpRowsR
import Derived.Test.YtdnfaoanaehjhaaGreatDoorH15
import Derived.Test.YtdnfaoanaehjhaaGreatDoorH14
namespace Go.Proofs.YtdnfaoanaehjhaaGreatDoor
open Go.RowKit Go.Maps Go.Sort

def someL (L : List AggL) : List AggL := L.filter fun a => decide (a.k ≠ 2)
theorem some_mem {L : List AggL} {a : AggL} (h : a ∈ someL L) : a ∈ L ∧ a.k ≠ 2 := by
  unfold someL at h
  have := List.mem_filter.1 h
  exact ⟨this.1, by simpa using this.2⟩
theorem some_snoc {L : List AggL} {k : Nat} (hk : k < L.length) : someL (L.take (k + 1)) = if L[k].k = 2 then someL (L.take k) else someL (L.take k) ++ [L[k]] := by
  unfold someL
  rw [List.take_succ_eq_append_getElem hk, List.filter_append]
  by_cases h : L[k].k = 2
  · rw [if_pos h]; simp [h]
  · rw [if_neg h]; simp [h]
theorem some_le (L : List AggL) : (someL L).length ≤ L.length := List.length_filter_le _ _
theorem check_some {V : List (List UInt8)} {R S : List RowL} {B : List (List UInt8)} {L : List AggL} (h : checkG V R B L = 0) (hp : S.Perm R) : checkG V S B (someL L) = 0 := by
  have hm := check_zero h
  have hf : formG V B R L = true := by
    unfold checkG at h
    split at h
    · cases h
    · rename_i h1; simpa using h1
  have hs : scopeG V B L = true := by
    unfold checkG at h
    split at h
    · cases h
    · split at h
      · cases h
      · rename_i h1; simpa using h1
  unfold formG at hf
  simp only [Bool.and_eq_true] at hf
  obtain ⟨f1, f2, f3, f4⟩ := hf
  rw [names_is, Bool.and_eq_true, decide_eq_true_eq, List.all_eq_true] at f3
  have g3 : namesB [] (aggNames (someL L)) = true := by
    rw [names_is, Bool.and_eq_true, decide_eq_true_eq, List.all_eq_true]
    have hsub : List.Sublist (aggNames (someL L)) (aggNames L) := List.Sublist.map _ List.filter_sublist
    exact ⟨fun x hx => f3.1 x (hsub.subset hx), f3.2.sublist hsub⟩
  have g4 : (someL L).all aggB = true := List.all_eq_true.2 fun a ha => List.all_eq_true.1 f4 a (some_mem ha).1
  have hf2 : formG V B S (someL L) = true := by
    unfold formG
    rw [right_perm hp f1, f2, g3, g4]; rfl
  rw [scope_is, Bool.and_eq_true] at hs
  have hs2 : scopeG V B (someL L) = true := by
    rw [scope_is, Bool.and_eq_true]
    refine ⟨hs.1, ?_⟩
    have h1 : L.any (badA V) = false := by simpa using hs.2
    have h2 : (someL L).any (badA V) = false := by
      rw [List.any_eq_false] at h1 ⊢
      exact fun a ha => h1 a (some_mem ha).1
    rw [h2]; rfl
  have hl := hm.long
  have := some_le L
  exact check_ok hf2 hs2 (by omega)
def cellsAg (L : List AggL) : List Value := L.flatMap fun a => [.int .i64 a.k, .string (bs a.o), .string (bs a.m)]
theorem cellsAg_app (L M : List AggL) : cellsAg (L ++ M) = cellsAg L ++ cellsAg M := by unfold cellsAg; rw [List.flatMap_append]
theorem cellsAg_at : ∀ (L : List AggL) (k : Nat) (hk : k < L.length) (i : Nat), i < 3 → (cellsAg L)[k * 3 + i]? = [Value.int .i64 L[k].k, .string (bs L[k].o), .string (bs L[k].m)][i]? := by
  intro L
  induction L with
  | nil => intro k hk; simp at hk
  | cons t r ih =>
    intro k hk i hi
    unfold cellsAg
    rw [List.flatMap_cons]
    cases k with
    | zero => rw [List.getElem?_append_left (by show _ < 3; omega)]; simp
    | succ k =>
      rw [List.getElem?_append_right (by show 3 ≤ _; omega)]
      rw [show (k + 1) * 3 + i - [Value.int .i64 t.k, .string (bs t.o), .string (bs t.m)].length = k * 3 + i by show (k + 1) * 3 + i - 3 = _; omega]
      exact ih k (by simpa using hk) i hi
theorem cellsAg_len (L : List AggL) : (cellsAg L).length = L.length * 3 := by
  unfold cellsAg
  induction L with
  | nil => rfl
  | cons t r ih =>
    rw [List.flatMap_cons, List.length_append, ih]
    simp
    omega
theorem own_aggs {w : World} {B : Nat} {v : Value} {L : List AggL} (h : w.ownsRow B 41 3 v L.length (cellsAg L)) : ∃ a c, v = .slice a L.length c ∧ AgA w a L.length c L := by
  have hc := h
  rcases h.2 with ⟨rfl, h0⟩ | ⟨g, cap, cur, rfl, hg, hblk, h1, h2, h3, h4⟩
  · have : L = [] := List.eq_nil_of_length_eq_zero (by have := cellsAg_len L; rw [h0] at this; simp at this; omega)
    subst this
    exact ⟨_, _, rfl, agA_nil w⟩
  · refine ⟨_, _, rfl, rfl, h1, h2, fun h0 => ⟨g, 0, rfl, (Array.getElem?_eq_some_iff.1 hblk).1, fun j hj => ?_⟩⟩
    have F : ∀ i, i < 3 → w.cell? ⟨g, 0 + j * 3 + i, none⟩ = [Value.int .i64 L[j].k, .string (bs L[j].o), .string (bs L[j].m)][i]? := fun i hi => by
      rw [Nat.zero_add, hc.cellAt (j * 3 + i) (by omega)]
      exact cellsAg_at L j hj i hi
    exact ⟨(F 0 (by decide)).trans rfl, (F 1 (by decide)).trans rfl, (F 2 (by decide)).trans rfl⟩
theorem info_agg : (Tryz.prog.info? 41).map (fun i => (i.zero, i.size, i.bytes)) = some (some (.agg #[.int .i64 0, .string ⟨#[]⟩, .string ⟨#[]⟩]), 3, 40) := by kernel_rfl

set_option maxRecDepth 100000 in
set_option maxHeartbeats 16000000 in
theorem groupOrder_calls (V : List (List UInt8)) (R : List RowL) (B : List (List UInt8)) (L : List AggL) (nn : Int) (hx : okV V) (hr : okRT R) (hB : okV B) (hL : ∀ g ∈ L, g.ok) (tv : Value) (ba : Option Addr) (bn bc : Nat) (la : Option Addr) (ln lc : Nat) (hle : ln * 16 ≤ 140737488355328) (w : World) (hg : Nm.Good w) (ht : TabA w tv V R) (hb : TxtA w ba bn bc B) (hl : AgA w la ln lc L) :
    Calls Tryz.prog 7 #[tv, .agg #[.slice ba bn bc, .int .i64 nn], .slice la ln lc] w fun e w' => e = .returned (.bool true) ∧ Below w.heap.size w w' := by
  obtain ⟨i0, hi, hz0, hz1, hz2⟩ := info_parts info_row
  obtain ⟨j0, hj, hj0, hj1, hj2⟩ := info_parts info_agg
  obtain ⟨va, n, vc, ra, m, rc, rfl, hV, hR⟩ := ht
  obtain ⟨A, hA⟩ : ∃ A, w.heap.size = A := ⟨_, rfl⟩
  obtain ⟨W0, hW0⟩ : ∃ W0, (w.alloc (.cells #[.slice va n vc, .slice ra m rc] 25)).alloc (.cells #[.slice ba bn bc, .int .i64 nn] 53) = W0 := ⟨_, rfl⟩
  have HB0 := Lib.hid (show Below w.heap.size w W0 by rw [← hW0]; exact two_alloc _ _ _)
  have HA0 := Lib.hid (show Blk W0 A 25 #[.slice va n vc, .slice ra m rc] by rw [← hW0, ← hA]; exact blk_alloc (blk_new _ _ _) _)
  have HV := Lib.hid hV
  have HR := Lib.hid hR
  have HG := Lib.hid hg
  have HVL := Lib.hid hV.len
  have HRL := Lib.hid hR.len
  have HLL := Lib.hid hl.len
  have HLA := Lib.hid hl
  have hlc := hl.cap
  have hlm := hl.most
  unfold maxLen at hlm
  have hTB : ∀ W, Below w.heap.size w W → TabA W (.agg #[.slice va n vc, .slice ra m rc]) V R := fun W hb => ⟨va, n, vc, ra, m, rc, rfl, hV.on hb, hR.on hb⟩
  have HTB := Lib.hid hTB
  have HLI := Lib.hid (light_calls V R _ W0 (hTB W0 HB0.out))
  have HAW := Lib.hid (fun W hW => awake_calls W hW)
  have HRK : Hid (∀ W, Below w.heap.size w W → Calls Tryz.prog 12 #[.agg #[.slice va n vc, .slice ra m rc], .slice ba bn bc, .slice la ln lc] W fun e w' => e = .returned (.int .i64 (checkG V R B L)) ∧ Below W.heap.size W w') := Lib.hid fun W hW => rGCheck_calls V R B L hx hr.r hB hL _ ba bn bc la ln lc W (hTB W hW) (hb.on hW) (hl.on hW) hle
  have HGR : Hid (checkG V R B L = 0 → ∀ (S : List RowL), S.Perm R → ∀ W tv sa sn sc, Below w.heap.size w W → TabA W tv V S → AgA W sa sn sc (someL L) → Calls Tryz.prog 14 #[tv, .slice ba bn bc, .slice sa sn sc] W fun e w' => ∃ uv, e = .returned (.tuple #[uv, .int .i64 0]) ∧ TabK (fun i => W.heap.size ≤ i) w' uv (B ++ aggNames (someL L)) (groupP V B (someL L) S) ∧ Below W.heap.size W w') := Lib.hid fun hz S hp W tv sa sn sc hW hT hS => group_yes V S B (someL L) hx (fun r hr2 t ht => hr r (hp.mem_iff.1 hr2) t ht) hB (fun g hg => hL g (some_mem hg).1) (check_some hz hp) tv ba bn bc sa sn sc W (hg.on hW) hT (hb.on hW) hS
  have HPM : Hid (∀ S : List RowL, S.Perm R → (groupP V B (someL L) R).Perm (groupP V B (someL L) S)) := Lib.hid fun S hp => group_perm hp.symm (fun a ha => (some_mem ha).2)
  have HLN32 : Hid (checkG V R B L = 0 → ln ≤ 32) := Lib.hid fun h => by have h1 := (check_zero h).long; have h2 := hl.len; omega
  have HL40 : Hid (lightB V R = true → m ≤ 40) := Lib.hid fun h => by unfold lightB at h; simp only [Bool.and_eq_true, decide_eq_true_eq] at h; rw [← hR.len]; exact h.1
  have HAE := Lib.hid hA
  have HW0 := Lib.hid hW0
  clear hTB hV hR hg hA hW0 hx hr hB hL hb hl hle
  generalize checkG V R B L = z at HRK HGR HLN32
  have q0 : W0.cell? ⟨A, 0, none⟩ = some (.slice va n vc) := (blk_cell HA0.out 0).trans rfl
  have q1 : W0.cell? ⟨A, 1, none⟩ = some (.slice ra m rc) := (blk_cell HA0.out 1).trans rfl
  cases hli : lightB V R with
  | false =>
    rw [hli] at HLI
    clear hli
    go_enter Tryz.func7, Tryz.ntmps7
    go_wp2_with fail
    rw [HW0.out, HAE.out]
    refine HLI.out.mono ?_
    rintro e w1 ⟨rfl, hb1⟩
    have HB1 := Lib.hid (fb2 HB0.out hb1 (Nat.le_refl _))
    clear hb1
    go_wp2_with fail
    refine (HAW.out _ (HG.out.on HB1.out)).mono ?_
    rintro e w2 ⟨rfl, hb2⟩
    have HBz := Lib.hid (fb2 HB1.out hb2 (Nat.le_refl _))
    clear hb2
    go_wp2
    go_ret
    exact ⟨rfl, HBz.out⟩
  | true =>
    have hm40 := HL40.out hli
    rw [hli] at HLI
    clear hli HL40
    by_cases hz : z = 0
    · have gz : (z != 0) = false := by rw [hz]; rfl
      have HGX := Lib.hid (HGR.out hz)
      have hln := HLN32.out hz
      clear hz HGR HLN32
      go_enter Tryz.func7, Tryz.ntmps7
      go_wp2_with fail
      rw [HW0.out, HAE.out]
      refine HLI.out.mono ?_
      rintro e w1 ⟨rfl, hb1⟩
      have HB1 := Lib.hid (fb2 HB0.out hb1 (Nat.le_refl _))
      have HA1 := Lib.hid (blk_on HA0.out hb1 (blk_lt HA0.out))
      clear hb1 q0 q1
      have q0 : w1.cell? ⟨A, 0, none⟩ = some (.slice va n vc) := (blk_cell HA1.out 0).trans rfl
      have q1 : w1.cell? ⟨A, 1, none⟩ = some (.slice ra m rc) := (blk_cell HA1.out 1).trans rfl
      go_wp2_with fail
      refine (HRK.out w1 HB1.out).mono ?_
      rintro e w2 ⟨rfl, hb2⟩
      have HB2 := Lib.hid (fb2 HB1.out hb2 (Nat.le_refl _))
      have HA2 := Lib.hid (blk_on HA1.out hb2 (blk_lt HA1.out))
      clear hb2 q0 q1
      obtain ⟨N, hN⟩ : ∃ N, w2.heap.size = N := ⟨_, rfl⟩
      obtain ⟨w3, hw3⟩ : ∃ w3, w2.alloc (.cells #[] 41) = w3 := ⟨_, rfl⟩
      have HNE := Lib.hid hN
      have HW3 := Lib.hid hw3
      have HB3 := Lib.hid (show Below w.heap.size w w3 by rw [← hw3]; exact fb2 HB2.out (box_below _ _) (Nat.le_refl _))
      have HB23 := Lib.hid (show Below w2.heap.size w2 w3 by rw [← hw3]; exact box_below _ _)
      have HO3 := Lib.hid (show w3.ownsRow N 41 3 (.slice (some ⟨N, 0, none⟩) 0 0) (someL (L.take 0)).length (cellsAg (someL (L.take 0))) from by
        have := World.ownsRow_lit (base := N) (e := 41) (size := 3) w2 #[] 0 (by rw [hN]; exact Nat.le_refl _) (by unfold maxLen; omega) rfl
        rw [hw3, hN] at this
        rw [List.take_zero]
        exact this)
      have hNw : w.heap.size ≤ N := by rw [← hN]; exact HB2.out.size
      clear hN hw3
      go_wp2
      rw [HW3.out, HNE.out]
      go_loopg [9, 10] ln (fun g v i wr => ∃ k : Nat, i = .int .i64 k ∧ k + g = ln ∧ Hid (wr.ownsRow N 41 3 v (someL (L.take k)).length (cellsAg (someL (L.take k)))) ∧ Hid (Below N w2 wr) ∧ Hid (N ≤ wr.heap.size))
      case atStart => exact ⟨0, rfl, by omega, HO3, Lib.hid (HB23.out.mono (by rw [HNE.out]; exact Nat.le_refl _)), Lib.hid (by have h1 := HB23.out.size; have h2 := HNE.out; omega)⟩
      case round =>
        obtain ⟨W1, rfl⟩ : ∃ W1, W1 = wr := ⟨_, rfl⟩
        obtain ⟨k, rfl, hkg, HO, HBN, HSZ⟩ := hrel
        have k0 : (0 : Int) ≤ (k : Int) := by omega
        have HBW := Lib.hid (show Below w.heap.size w W1 from HB2.out.trans (HBN.out.mono hNw))
        by_cases hk : k < ln
        · obtain ⟨gg, rfl⟩ : ∃ gg, gk = gg + 1 := ⟨gk - 1, by omega⟩
          have hkL : k < L.length := by rw [HLL.out]; exact hk
          obtain ⟨g, o, ha, hgw, hcells⟩ := HLA.out.cells (by omega)
          subst ha
          obtain ⟨c0, c1, c2⟩ := (hcells k hkL).on HBW.out hgw
          have HSN := Lib.hid (some_snoc hkL)
          have hle := some_le (L.take k)
          rw [List.length_take] at hle
          obtain ⟨l0, hl0⟩ : ∃ l0, (someL (L.take k)).length = l0 := ⟨_, rfl⟩
          rw [hl0] at hle
          have hO := HO.out
          rw [hl0] at hO
          have HO1 := Lib.hid hO
          have HL0 := Lib.hid hl0
          have hgN : g < N := Nat.lt_of_lt_of_le hgw hNw
          clear hcells hO hl0 HO
          generalize L[k] = y at c0 c1 c2 HSN
          obtain ⟨yk, yo, ym⟩ := y
          dsimp only at c0 c1 c2 HSN
          have k1 : (k : Int) < (ln : Int) := by omega
          by_cases he : yk = 2
          · have HE := Lib.hid (HSN.out.trans (if_pos he))
            have g1 : (yk != 2) = false := by rw [he]; rfl
            clear he HSN
            go_wp2
            go_roundg gg
            case measure => omega
            case rel => exact ⟨k + 1, by go_num, by omega, Lib.hid (by rw [HE.out, HL0.out]; exact HO1.out), HBN, HSZ⟩
          · have HE := Lib.hid (HSN.out.trans (if_neg he))
            have g1 : (yk != 2) = true := bne_iff_ne.2 he
            have HM1 := Lib.hid (show l0 + 1 ≤ maxLen by unfold maxLen; omega)
            have HM2 := Lib.hid (show (l0 + 1) * 40 ≤ 140737488355328 by omega)
            have hsz := HSZ.out
            clear he HSN
            go_wp2_with (at_builtin; (refine wpList_append_own_at _ rfl (.tmp 45) (.tmp 50) 26 rfl N 41 j0 (.agg #[.int .i64 0, .string ⟨#[]⟩, .string ⟨#[]⟩]) 3 40 Tryz.underlying26 hj hj0 hj1 hj2 rfl (by decide) u9 _ _ rfl (HO1.out.alloc _) ⟨W1.heap.size, 0, none⟩ 1 1 [.int .i64 yk, .string (bs yo), .string (bs ym)] rfl rfl (news_gen _ _ _ (by simp)) (by intro u hu; simp at hu; rcases hu with rfl | rfl | rfl <;> rfl) HM1.out HM2.out (Nat.le_trans hsz (by simp)) ?_; intro v4 w4 ho4 hg4 _ _; have HO4 := Lib.hid ho4; have HG4 := Lib.hid hg4; clear ho4 hg4))
            go_roundg gg
            case measure => omega
            case rel => exact ⟨k + 1, by go_num, by omega, Lib.hid (by rw [HE.out, List.length_append, HL0.out, cellsAg_app]; exact HO4.out), Lib.hid (HBN.out.trans (((box_below W1 _).mono hsz).grown HG4.out (Nat.le_trans hsz (by simp)) (fun q hq => (HO1.out.lt q hq).1))), Lib.hid (Nat.le_trans hsz (Nat.le_trans (by simp) HG4.out.size))⟩
        · have k1 : ¬ (k : Int) < (ln : Int) := by omega
          have htk : L.take k = L := List.take_of_length_le (by rw [HLL.out]; omega)
          rw [htk] at HO
          obtain ⟨sa, sc, rfl, hS⟩ := own_aggs HO.out
          have HS1 := Lib.hid hS
          obtain ⟨sn, hsn⟩ : ∃ sn, (someL L).length = sn := ⟨_, rfl⟩
          rw [hsn] at HS1
          have HA3 := Lib.hid (blk_on HA2.out HBN.out (by have h1 := blk_lt HA2.out; have h2 := HNE.out; omega))
          have hAW : A < W1.heap.size := by have := blk_lt HA3.out; omega
          have hAW2 : ¬ A = W1.heap.size := by omega
          have q0 : W1.cell? ⟨A, 0, none⟩ = some (.slice va n vc) := (blk_cell HA3.out 0).trans rfl
          have q1 : W1.cell? ⟨A, 1, none⟩ = some (.slice ra m rc) := (blk_cell HA3.out 1).trans rfl
          rw [hsn]
          clear htk hS HO hkg hk
          obtain ⟨w4, hw4⟩ : ∃ w4, w4 = W1 := ⟨_, rfl⟩
          subst hw4
          go_wp2
          obtain ⟨X, hX⟩ : ∃ X, w4.heap.size = X := ⟨_, rfl⟩
          obtain ⟨w0, hw0⟩ : ∃ w0, w4.alloc (.cells #[.slice va n vc, .slice none 0 0] 25) = w0 := ⟨_, rfl⟩
          have HB40 := Lib.hid (show Below w4.heap.size w4 w0 by rw [← hw0]; exact box_below _ _)
          have HBW0 := Lib.hid (show Below w.heap.size w w0 from fb2 HBW.out HB40.out (Nat.le_refl _))
          have HAW0 := Lib.hid (show Blk w0 A 25 #[.slice va n vc, .slice ra m rc] by rw [← hw0]; exact blk_alloc HA3.out _)
          have HAX := Lib.hid (show A < X by omega)
          have HLE := Lib.hid (show w.heap.size ≤ X by rw [← hX]; exact HBW.out.size)
          have HXE := Lib.hid hX
          obtain ⟨d, hd⟩ : ∃ d, (IntKind.u64.wrap nn).toNat % m = d := ⟨_, rfl⟩
          have HSR0 := Lib.hid (show RowsR X w0 (.slice va n vc) (.slice none 0 0) ((turnR R d).take 0) w0 from RowsR.start (by rw [← hw0, ← hX]; exact blk_new _ _ _))
          have HDE := Lib.hid hd
          rw [hw0, hX]
          clear hw0 hX hd q0 q1 hAW hAW2
          go_loopg [12] m (fun g i wr => ∃ (i' : Nat) (v : Value), i = .int .i64 i' ∧ i' + g = m ∧ Hid (RowsR X w0 (.slice va n vc) v ((turnR R d).take i') wr))
          case atStart => exact ⟨0, _, rfl, by omega, HSR0⟩
          case round =>
            clear HSR0 HBW
            obtain ⟨W1, rfl⟩ : ∃ W1, W1 = wr := ⟨_, rfl⟩
            obtain ⟨i, v, rfl, hig, HRD⟩ := hrel
            have HBW := Lib.hid (HBW0.out.trans (HRD.out.below.mono HLE.out))
            have q1 : W1.cell? ⟨A, 1, none⟩ = some (.slice ra m rc) := (blk_cell (blk_on HAW0.out HRD.out.below HAX.out) 1).trans rfl
            have k0 : (0 : Int) ≤ (i : Int) := by omega
            by_cases him : i < m
            · obtain ⟨g1, rfl⟩ : ∃ g1, gk = g1 + 1 := ⟨gk - 1, by omega⟩
              have hdm : d < m := by rw [← HDE.out]; exact Nat.mod_lt _ (by omega)
              obtain ⟨j, hj⟩ : ∃ j, (i + d) % m = j := ⟨_, rfl⟩
              have hjm : j < m := by rw [← hj]; exact Nat.mod_lt _ (by omega)
              have hjL : j < R.length := by rw [HRL.out]; exact hjm
              obtain ⟨g, o, rfl, hgw, hcells⟩ := HR.out.cells (by omega)
              obtain ⟨a', c', hcell, htrm⟩ := hcells j hjL
              have HTK := Lib.hid (show (turnR R d).take i ++ [R[j]] = (turnR R d).take (i + 1) by
                have := turn_more (R := R) (d := d) (i := i) (by rw [HRL.out]; exact hdm) (by rw [HRL.out]; exact him)
                have e : (i + d) % R.length = j := by rw [HRL.out]; exact hj
                simp only [e] at this
                exact this)
              have HTM := Lib.hid ((htrm.k).on (stay_below HBW.out))
              generalize R[j] = y at hcell HTM HTK
              clear htrm
              generalize hyn : y.length = yn at hcell HTM
              have HYN := Lib.hid hyn
              have HSA := Lib.hid (show W1.cell? ⟨A, 1, none⟩ = some (.slice (some ⟨g, o, none⟩) m rc) ∧ W1.cell? ⟨g, o + j, none⟩ = some (.slice a' yn c') from ⟨q1, keptC hcell HBW.out hgw⟩)
              have HSL := Lib.hid (show A < W1.heap.size ∧ g < W1.heap.size from ⟨by have h1 := HAX.out; have h2 := HRD.out.size; omega, Nat.lt_of_lt_of_le hgw HBW.out.size⟩)
              have HGX := Lib.hid (show g < X from Nat.lt_of_lt_of_le hgw HLE.out)
              have HQ1 := Lib.hid (show W1.cell? ⟨X, 1, none⟩ = some v from (blk_cell HRD.out.all 1).trans rfl)
              have HXL := Lib.hid (blk_lt HRD.out.all)
              have HSX := Lib.hid HRD.out.size
              have HL1 := Lib.hid (show ((turnR R d).take i).length = i by rw [List.length_take, turn_len, HRL.out]; omega)
              obtain ⟨cs, hown, hrc⟩ := HRD.out.own
              rw [HL1.out] at hown
              have HOW := Lib.hid hown
              have HRC := Lib.hid hrc
              have HOB : Hid (∀ e, Value.ownBlock v = some e → X + 1 ≤ e) := Lib.hid (fun e he => (hown.lt e he).1)
              have hu0 : 0 ≤ IntKind.u64.wrap nn := by simp [IntKind.wrap, IntKind.bits, IntKind.signed]; omega
              have HD1 := Lib.hid (show (IntKind.u64.wrap nn).tmod (m : Int) = (d : Int) by
                rw [Int.tmod_eq_emod_of_nonneg hu0, ← HDE.out, Int.natCast_emod, Int.toNat_of_nonneg hu0])
              have HM1 := Lib.hid (show IntKind.u64.wrap (m : Int) = (m : Int) by simp [IntKind.wrap, IntKind.bits, IntKind.signed]; omega)
              have HD2 := Lib.hid (show IntKind.i64.wrap (d : Int) = (d : Int) by simp [IntKind.wrap, IntKind.bits, IntKind.signed]; omega)
              have HD3 := Lib.hid (show IntKind.i64.wrap ((i : Int) + (d : Int)) = (i : Int) + (d : Int) by simp [IntKind.wrap, IntKind.bits, IntKind.signed]; omega)
              have HD4 := Lib.hid (show ((i : Int) + (d : Int)).tmod (m : Int) = (j : Int) by
                rw [Int.tmod_eq_emod_of_nonneg (by omega), ← hj, Int.natCast_emod, Int.natCast_add])
              have k1 : (i : Int) < (m : Int) := by omega
              have k2 : (0 : Int) ≤ (j : Int) := by omega
              have k3 : (j : Int) < (m : Int) := by omega
              have k4 : ¬ m = 0 := by omega
              clear hcells hcell hyn hjL hown hrc hu0 hj hgw
              go_wp2_with fail
              refine wp_region_held_drew (S := (fun W => W.cell? ⟨A, 1, none⟩ = some (.slice (some ⟨g, o, none⟩) m rc) ∧ W.cell? ⟨g, o + j, none⟩ = some (.slice a' yn c'))) (by kernel_rfl) ?_ (fun hHeld => ?_)
              · (try dsimp only); exact HSA.out
              obtain ⟨Wd, hWd⟩ : ∃ Wd, W1.drew = Wd := ⟨_, rfl⟩
              rw [hWd] at hHeld ⊢
              have HBD := Lib.hid (show Below W1.heap.size W1 Wd by rw [← hWd]; exact (Below.refl _ _).drew)
              have HDZ := Lib.hid (show Wd.heap.size = W1.heap.size by rw [← hWd]; rfl)
              obtain ⟨W2, hW2⟩ : ∃ W2, Wd.alloc (.cells #[.slice a' yn c'] 35) = W2 := ⟨_, rfl⟩
              have HW2 := Lib.hid hW2
              have HBD2 := Lib.hid (show Below Wd.heap.size Wd W2 by rw [← hW2]; exact box_below _ _)
              have HB2 := Lib.hid (fb2 HBD.out HBD2.out (Nat.le_refl _))
              have HN2 : Hid (W2.cell? ⟨Wd.heap.size, 0, none⟩ = some (.slice a' yn c')) := Lib.hid (by rw [← hW2]; exact blk_cell (blk_new Wd 35 #[.slice a' yn c']) 0)
              have HS2 := Lib.hid (show W2.cell? ⟨A, 1, none⟩ = some (.slice (some ⟨g, o, none⟩) m rc) ∧ W2.cell? ⟨g, o + j, none⟩ = some (.slice a' yn c') from ⟨keptC HSA.out.1 HB2.out HSL.out.1, keptC HSA.out.2 HB2.out HSL.out.2⟩)
              have HQD := Lib.hid (keptC HQ1.out HBD.out HXL.out)
              have HQ2 := Lib.hid (keptC HQ1.out HB2.out HXL.out)
              have HZ2 := Lib.hid (show X + 1 ≤ W2.heap.size by have h1 := HSX.out; have h2 := HB2.out.size; omega)
              have HO2 := Lib.hid (HOW.out.kept (row := none) ⟨HB2.out.os, HB2.out.tape, HB2.out.output, HB2.out.size, fun b hb _ => HB2.out.block b hb⟩ (by
                cases hq : v.ownBlock with
                | none => exact .inl rfl
                | some x => exact .inr (by simp)))
              clear hWd hW2
              refine wpAnyH_take (i := 0) (oi := ⟨some 62, _, _, _, _, _⟩) (v := ?_) rfl (by kernel_rfl) (by kernel_rfl) (by kernel_rfl) (fun _ _ _ h => h) (Or.inl ⟨by kernel_rfl, ?_⟩) (by assumption) ?_
              rotate_left
              · (intro ww hSw; (try dsimp only at hSw); go_simp); (try with_reducible rfl)
              (try simp only [Act.put, List.setIfInBounds_toArray, List.set_cons_zero, List.set_cons_succ])
              refine wpAnyH_take (i := 2) (oi := ⟨some 64, _, _, _, _, _⟩) (v := ?_) rfl (by kernel_rfl) (by kernel_rfl) (by kernel_rfl) (fun _ _ _ h => h) (Or.inl ⟨by kernel_rfl, ?_⟩) (by assumption) ?_
              rotate_left
              · (intro ww hSw; (try dsimp only at hSw); go_simp); (try with_reducible rfl)
              (try simp only [Act.put, List.setIfInBounds_toArray, List.set_cons_zero, List.set_cons_succ])
              refine wpAnyH_take (i := 3) (oi := ⟨some 65, _, _, _, _, _⟩) (v := ?_) rfl (by kernel_rfl) (by kernel_rfl) (by kernel_rfl) (fun _ _ _ h => h) (Or.inl ⟨by kernel_rfl, ?_⟩) (by assumption) ?_
              rotate_left
              · (intro ww hSw; (try dsimp only at hSw); obtain ⟨d1, _⟩ := hSw; go_simp); (try with_reducible rfl)
              (try simp only [Act.put, List.setIfInBounds_toArray, List.set_cons_zero, List.set_cons_succ])
              refine wpAnyH_take (i := 4) (oi := ⟨some 66, _, _, _, _, _⟩) (v := ?_) rfl (by kernel_rfl) (by kernel_rfl) (by kernel_rfl) (fun _ _ _ h => h) (Or.inl ⟨by kernel_rfl, ?_⟩) (by assumption) ?_
              rotate_left
              · (intro ww hSw; (try dsimp only at hSw); go_simp); (try with_reducible rfl)
              (try simp only [Act.put, List.setIfInBounds_toArray, List.set_cons_zero, List.set_cons_succ])
              refine wpAnyH_take (i := 5) (oi := ⟨some 67, _, _, _, _, _⟩) (v := ?_) rfl (by kernel_rfl) (by kernel_rfl) (by kernel_rfl) (fun _ _ _ h => h) (Or.inl ⟨by kernel_rfl, ?_⟩) (by assumption) ?_
              rotate_left
              · (intro ww hSw; (try dsimp only at hSw); go_simp); (try with_reducible rfl)
              (try simp only [Act.put, List.setIfInBounds_toArray, List.set_cons_zero, List.set_cons_succ])
              refine wpAnyH_take (i := 6) (oi := ⟨some 68, _, _, _, _, _⟩) (v := ?_) rfl (by kernel_rfl) (by kernel_rfl) (by kernel_rfl) (fun _ _ _ h => h) (Or.inl ⟨by kernel_rfl, ?_⟩) (by assumption) ?_
              rotate_left
              · (intro ww hSw; (try dsimp only at hSw); go_simp); (try with_reducible rfl)
              (try simp only [Act.put, List.setIfInBounds_toArray, List.set_cons_zero, List.set_cons_succ])
              refine wpAnyH_take (i := 7) (oi := ⟨some 69, _, _, _, _, _⟩) (v := ?_) rfl (by kernel_rfl) (by kernel_rfl) (by kernel_rfl) (fun _ _ _ h => h) (Or.inl ⟨by kernel_rfl, ?_⟩) (by assumption) ?_
              rotate_left
              · (intro ww hSw; (try dsimp only at hSw); go_simp); (try with_reducible rfl)
              (try simp only [Act.put, List.setIfInBounds_toArray, List.set_cons_zero, List.set_cons_succ])
              refine wpAnyH_take (i := 8) (oi := ⟨some 70, _, _, _, _, _⟩) (v := ?_) rfl (by kernel_rfl) (by kernel_rfl) (by kernel_rfl) (fun _ _ _ h => h) (Or.inl ⟨by kernel_rfl, ?_⟩) (by assumption) ?_
              rotate_left
              · (intro ww hSw; (try dsimp only at hSw); obtain ⟨d1, _⟩ := hSw; go_simp); (try with_reducible rfl)
              (try simp only [Act.put, List.setIfInBounds_toArray, List.set_cons_zero, List.set_cons_succ])
              refine wpAnyH_take (i := 9) (oi := ⟨some 71, _, _, _, _, _⟩) (v := ?_) rfl (by kernel_rfl) (by kernel_rfl) (by kernel_rfl) (fun _ _ _ h => h) (Or.inl ⟨by kernel_rfl, ?_⟩) (by assumption) ?_
              rotate_left
              · (intro ww hSw; (try dsimp only at hSw); go_simp); (try with_reducible rfl)
              (try simp only [Act.put, List.setIfInBounds_toArray, List.set_cons_zero, List.set_cons_succ])
              refine wpAnyH_take (i := 10) (oi := ⟨some 72, _, _, _, _, _⟩) (v := ?_) rfl (by kernel_rfl) (by kernel_rfl) (by kernel_rfl) (fun _ _ _ h => h) (Or.inl ⟨by kernel_rfl, ?_⟩) (by assumption) ?_
              rotate_left
              · (intro ww hSw; (try dsimp only at hSw); have e1 := HM1.out; go_simp); (try with_reducible rfl)
              (try simp only [Act.put, List.setIfInBounds_toArray, List.set_cons_zero, List.set_cons_succ])
              refine wpAnyH_take (i := 11) (oi := ⟨some 73, _, _, _, _, _⟩) (v := ?_) rfl (by kernel_rfl) (by kernel_rfl) (by kernel_rfl) (fun _ _ _ h => h) (Or.inl ⟨by kernel_rfl, ?_⟩) (by assumption) ?_
              rotate_left
              · (intro ww hSw; (try dsimp only at hSw); have e1 := HD1.out; go_simp); (try with_reducible rfl)
              (try simp only [Act.put, List.setIfInBounds_toArray, List.set_cons_zero, List.set_cons_succ])
              refine wpAnyH_take (i := 12) (oi := ⟨some 74, _, _, _, _, _⟩) (v := ?_) rfl (by kernel_rfl) (by kernel_rfl) (by kernel_rfl) (fun _ _ _ h => h) (Or.inl ⟨by kernel_rfl, ?_⟩) (by assumption) ?_
              rotate_left
              · (intro ww hSw; (try dsimp only at hSw); have e1 := HD2.out; go_simp); (try with_reducible rfl)
              (try simp only [Act.put, List.setIfInBounds_toArray, List.set_cons_zero, List.set_cons_succ])
              refine wpAnyH_take (i := 13) (oi := ⟨some 75, _, _, _, _, _⟩) (v := ?_) rfl (by kernel_rfl) (by kernel_rfl) (by kernel_rfl) (fun _ _ _ h => h) (Or.inl ⟨by kernel_rfl, ?_⟩) (by assumption) ?_
              rotate_left
              · (intro ww hSw; (try dsimp only at hSw); have e1 := HD3.out; go_simp); (try with_reducible rfl)
              (try simp only [Act.put, List.setIfInBounds_toArray, List.set_cons_zero, List.set_cons_succ])
              refine wpAnyH_take (i := 14) (oi := ⟨some 76, _, _, _, _, _⟩) (v := ?_) rfl (by kernel_rfl) (by kernel_rfl) (by kernel_rfl) (fun _ _ _ h => h) (Or.inl ⟨by kernel_rfl, ?_⟩) (by assumption) ?_
              rotate_left
              · (intro ww hSw; (try dsimp only at hSw); go_simp); (try with_reducible rfl)
              (try simp only [Act.put, List.setIfInBounds_toArray, List.set_cons_zero, List.set_cons_succ])
              refine wpAnyH_take (i := 15) (oi := ⟨some 77, _, _, _, _, _⟩) (v := ?_) rfl (by kernel_rfl) (by kernel_rfl) (by kernel_rfl) (fun _ _ _ h => h) (Or.inl ⟨by kernel_rfl, ?_⟩) (by assumption) ?_
              rotate_left
              · (intro ww hSw; (try dsimp only at hSw); obtain ⟨d1, _⟩ := hSw; go_simp); (try with_reducible rfl)
              (try simp only [Act.put, List.setIfInBounds_toArray, List.set_cons_zero, List.set_cons_succ])
              refine wpAnyH_take (i := 16) (oi := ⟨some 78, _, _, _, _, _⟩) (v := ?_) rfl (by kernel_rfl) (by kernel_rfl) (by kernel_rfl) (fun _ _ _ h => h) (Or.inl ⟨by kernel_rfl, ?_⟩) (by assumption) ?_
              rotate_left
              · (intro ww hSw; (try dsimp only at hSw); go_simp); (try with_reducible rfl)
              (try simp only [Act.put, List.setIfInBounds_toArray, List.set_cons_zero, List.set_cons_succ])
              refine wpAnyH_take (i := 17) (oi := ⟨some 79, _, _, _, _, _⟩) (v := ?_) rfl (by kernel_rfl) (by kernel_rfl) (by kernel_rfl) (fun _ _ _ h => h) (Or.inl ⟨by kernel_rfl, ?_⟩) (by assumption) ?_
              rotate_left
              · (intro ww hSw; (try dsimp only at hSw); have e1 := HD4.out; go_simp); (try with_reducible rfl)
              (try simp only [Act.put, List.setIfInBounds_toArray, List.set_cons_zero, List.set_cons_succ])
              refine wpAnyH_take (i := 18) (oi := ⟨some 80, _, _, _, _, _⟩) (v := ?_) rfl (by kernel_rfl) (by kernel_rfl) (by kernel_rfl) (fun _ _ _ h => h) (Or.inl ⟨by kernel_rfl, ?_⟩) (by assumption) ?_
              rotate_left
              · (intro ww hSw; (try dsimp only at hSw); go_simp); (try with_reducible rfl)
              (try simp only [Act.put, List.setIfInBounds_toArray, List.set_cons_zero, List.set_cons_succ])
              refine wpAnyH_take (i := 19) (oi := ⟨some 81, _, _, _, _, _⟩) (v := ?_) rfl (by kernel_rfl) (by kernel_rfl) (by kernel_rfl) (fun _ _ _ h => h) (Or.inl ⟨by kernel_rfl, ?_⟩) (by assumption) ?_
              rotate_left
              · (intro ww hSw; (try dsimp only at hSw); obtain ⟨_, d1⟩ := hSw; go_simp); (try with_reducible rfl)
              (try simp only [Act.put, List.setIfInBounds_toArray, List.set_cons_zero, List.set_cons_succ])
              refine wpAnyH_ready (rs := [1, 20]) (by kernel_rfl) (by simp) ?_
              refine AllReadyH.cons rfl (fun K hK => ?_) (AllReadyH.cons rfl (fun K hK => ?_) AllReadyH.nil)
              · have hqv := HQD.out
                go_simp
                clear hqv
                refine hK.out _ _ ?_ (fun hHeld => ?_)
                · exact hHeld
                clear hK K
                (try simp only [Act.put, List.setIfInBounds_toArray, List.set_cons_zero, List.set_cons_succ])
                refine wpAnyH_ready (rs := [20]) (by kernel_rfl) (by simp) ?_
                refine AllReadyH.cons rfl (fun K hK => ?_) AllReadyH.nil
                go_simp
                rw [HW2.out]
                refine hK.out _ _ ?_ (fun hHeld => ?_)
                · exact HS2.out
                clear hK K
                (try simp only [Act.put, List.setIfInBounds_toArray, List.set_cons_zero, List.set_cons_succ])
                refine wpAnyH_ready (rs := [21]) (by kernel_rfl) (by simp) ?_
                refine AllReadyH.cons rfl (fun K hK => ?_) AllReadyH.nil
                refine wp_append_own (.tmp 63) (.tmp 82) 23 rfl (X + 1) 35 i0 (.slice none 0 0) 1 24 Tryz.underlying23 hi hz0 hz1 hz2 rfl (by decide) v _ _ rfl HO2.out ⟨Wd.heap.size, 0, none⟩ 1 1 [.slice a' yn c'] rfl rfl (fun j u hj => ?_) (fun u hu => ?_) (by unfold maxLen; omega) (by omega) HZ2.out ?_
                · cases j with
                  | zero => injection hj with hj; subst hj; exact HN2.out
                  | succ j => simp at hj
                · simp only [List.mem_singleton] at hu; subst hu; rfl
                intro v5 w5 ho5 hg5 _
                have HO5 := Lib.hid ho5
                have HG5 := Lib.hid hg5
                have HB5 := Lib.hid (show Below (X + 1) W1 w5 from (HB2.out.mono HSX.out).grown hg5 (Nat.le_trans HSX.out HB2.out.size) (fun b hb => HOB.out _ hb))
                have HS5 := Lib.hid (show w5.cell? ⟨A, 1, none⟩ = some (.slice (some ⟨g, o, none⟩) m rc) ∧ w5.cell? ⟨g, o + j, none⟩ = some (.slice a' yn c') from ⟨keptC HSA.out.1 HB5.out (by have := HAX.out; omega), keptC HSA.out.2 HB5.out (by have := HGX.out; omega)⟩)
                have HX5 := Lib.hid (blk_on HRD.out.all HB5.out (Nat.lt_succ_self X))
                clear ho5 hg5
                refine hK.out _ _ ?_ (fun hHeld => ?_)
                · exact HS5.out
                clear hK K
                (try simp only [Act.put, List.setIfInBounds_toArray])
                refine wpAnyH_take (i := 22) (oi := ⟨some 84, _, _, _, _, _⟩) (v := ?_) rfl (by kernel_rfl) (by kernel_rfl) (by kernel_rfl) (fun _ _ _ h => h) (Or.inl ⟨by kernel_rfl, ?_⟩) (by assumption) ?_
                rotate_left
                · (intro ww hSw; (try dsimp only at hSw); go_simp); (try with_reducible rfl)
                (try simp only [Act.put])
                refine wpAnyH_ready (rs := [23]) (by kernel_rfl) (by simp) ?_
                refine AllReadyH.cons rfl (fun K hK => ?_) AllReadyH.nil
                refine wp_one_abs 23 (.tmp 84) (.tmp 83) rfl X 1 v5 rfl rfl (own_cells HO5.out).1 (own_cells HO5.out).2 25 [.slice va n vc, v] HX5.out (by kernel_rfl) (by simp) ?_
                intro w6 hX6 hg6
                have HB6 := Lib.hid (show Below X W1 w6 from (HB5.out.mono (Nat.le_succ X)).grown hg6 (by have h1 := HSX.out; have h2 := HB5.out.size; omega) (fun b hb => by injection hb with hb; omega))
                refine hK.out _ _ ?_ (fun hHeld => ?_)
                · exact ⟨keptC HSA.out.1 HB6.out (by have := HAX.out; omega), keptC HSA.out.2 HB6.out HGX.out⟩
                clear hK K
                (try simp only [Act.put])
                refine wpAnyH_done (by kernel_rfl) ?_ _
                have HR6 := Lib.hid (show RowsR X w0 (.slice va n vc) v5 ((turnR R d).take (i + 1)) w6 from rows_next HRD.out HRC.out HL1.out (HTM.out.mono (fun b _ hb => Nat.lt_of_lt_of_le hb HLE.out)) HYN.out HTK.out HO5.out hX6 hg6 HB6.out)
                clear hX6 hg6
                go_wp2
                go_roundg g1
                case measure => omega
                case rel => exact ⟨i + 1, v5, by go_num, by omega, HR6⟩
              · go_simp
                rw [HW2.out]
                refine hK.out _ _ ?_ (fun hHeld => ?_)
                · exact HS2.out
                clear hK K
                (try simp only [Act.put, List.setIfInBounds_toArray, List.set_cons_zero, List.set_cons_succ])
                have hqv := HQ2.out
                refine wpAnyH_ready (rs := [1]) (by kernel_rfl) (by simp) ?_
                refine AllReadyH.cons rfl (fun K hK => ?_) AllReadyH.nil
                go_simp
                clear hqv
                refine hK.out _ _ ?_ (fun hHeld => ?_)
                · exact hHeld
                clear hK K
                (try simp only [Act.put, List.setIfInBounds_toArray, List.set_cons_zero, List.set_cons_succ])
                refine wpAnyH_ready (rs := [21]) (by kernel_rfl) (by simp) ?_
                refine AllReadyH.cons rfl (fun K hK => ?_) AllReadyH.nil
                refine wp_append_own (.tmp 63) (.tmp 82) 23 rfl (X + 1) 35 i0 (.slice none 0 0) 1 24 Tryz.underlying23 hi hz0 hz1 hz2 rfl (by decide) v _ _ rfl HO2.out ⟨Wd.heap.size, 0, none⟩ 1 1 [.slice a' yn c'] rfl rfl (fun j u hj => ?_) (fun u hu => ?_) (by unfold maxLen; omega) (by omega) HZ2.out ?_
                · cases j with
                  | zero => injection hj with hj; subst hj; exact HN2.out
                  | succ j => simp at hj
                · simp only [List.mem_singleton] at hu; subst hu; rfl
                intro v5 w5 ho5 hg5 _
                have HO5 := Lib.hid ho5
                have HG5 := Lib.hid hg5
                have HB5 := Lib.hid (show Below (X + 1) W1 w5 from (HB2.out.mono HSX.out).grown hg5 (Nat.le_trans HSX.out HB2.out.size) (fun b hb => HOB.out _ hb))
                have HS5 := Lib.hid (show w5.cell? ⟨A, 1, none⟩ = some (.slice (some ⟨g, o, none⟩) m rc) ∧ w5.cell? ⟨g, o + j, none⟩ = some (.slice a' yn c') from ⟨keptC HSA.out.1 HB5.out (by have := HAX.out; omega), keptC HSA.out.2 HB5.out (by have := HGX.out; omega)⟩)
                have HX5 := Lib.hid (blk_on HRD.out.all HB5.out (Nat.lt_succ_self X))
                clear ho5 hg5
                refine hK.out _ _ ?_ (fun hHeld => ?_)
                · exact HS5.out
                clear hK K
                (try simp only [Act.put, List.setIfInBounds_toArray])
                refine wpAnyH_take (i := 22) (oi := ⟨some 84, _, _, _, _, _⟩) (v := ?_) rfl (by kernel_rfl) (by kernel_rfl) (by kernel_rfl) (fun _ _ _ h => h) (Or.inl ⟨by kernel_rfl, ?_⟩) (by assumption) ?_
                rotate_left
                · (intro ww hSw; (try dsimp only at hSw); go_simp); (try with_reducible rfl)
                (try simp only [Act.put])
                refine wpAnyH_ready (rs := [23]) (by kernel_rfl) (by simp) ?_
                refine AllReadyH.cons rfl (fun K hK => ?_) AllReadyH.nil
                refine wp_one_abs 23 (.tmp 84) (.tmp 83) rfl X 1 v5 rfl rfl (own_cells HO5.out).1 (own_cells HO5.out).2 25 [.slice va n vc, v] HX5.out (by kernel_rfl) (by simp) ?_
                intro w6 hX6 hg6
                have HB6 := Lib.hid (show Below X W1 w6 from (HB5.out.mono (Nat.le_succ X)).grown hg6 (by have h1 := HSX.out; have h2 := HB5.out.size; omega) (fun b hb => by injection hb with hb; omega))
                refine hK.out _ _ ?_ (fun hHeld => ?_)
                · exact ⟨keptC HSA.out.1 HB6.out (by have := HAX.out; omega), keptC HSA.out.2 HB6.out HGX.out⟩
                clear hK K
                (try simp only [Act.put])
                refine wpAnyH_done (by kernel_rfl) ?_ _
                have HR6 := Lib.hid (show RowsR X w0 (.slice va n vc) v5 ((turnR R d).take (i + 1)) w6 from rows_next HRD.out HRC.out HL1.out (HTM.out.mono (fun b _ hb => Nat.lt_of_lt_of_le hb HLE.out)) HYN.out HTK.out HO5.out hX6 hg6 HB6.out)
                clear hX6 hg6
                go_wp2
                go_roundg g1
                case measure => omega
                case rel => exact ⟨i + 1, v5, by go_num, by omega, HR6⟩
            · have hE : (turnR R d).take i = turnR R d := List.take_of_length_le (by rw [turn_len, HRL.out]; omega)
              have k1 : ¬ (i : Int) < (m : Int) := by omega
              have hfl : (turnR R d).length = m := by rw [turn_len, HRL.out]
              rw [hE] at HRD
              obtain ⟨a3, c3, hv, hrow3⟩ := HRD.out.rows
              rw [hfl] at hv hrow3
              subst hv
              have HU1 := Lib.hid hrow3
              have HBX1 := Lib.hid HRD.out.all
              have HAW1 := Lib.hid (blk_on HAW0.out HRD.out.below HAX.out)
              have HB41 := Lib.hid (show Below w4.heap.size w4 W1 from HB40.out.trans (HRD.out.below.mono (by rw [HXE.out]; exact Nat.le_refl _)))
              have HS2 := Lib.hid (HS1.out.on HB41.out)
              have ho1 := HGX.out R (List.Perm.refl R) W1 _ sa sn sc HBW.out (HTB.out W1 HBW.out) HS2.out
              have hpm := HPM.out (turnR R d) (turn_perm R d)
              have hgu := fun W tv (h1 : Below w.heap.size w W) (h2 : TabA W tv V (turnR R d)) (h3 : AgA W sa sn sc (someL L)) => HGX.out (turnR R d) (turn_perm R d) W tv sa sn sc h1 h2 h3
              generalize groupP V B (someL L) R = G1 at ho1 hpm
              generalize groupP V B (someL L) (turnR R d) = G2 at hgu hpm
              generalize B ++ aggNames (someL L) = VN at ho1 hgu
              have HO1 := Lib.hid ho1
              have HPP := Lib.hid hpm
              have HGU := Lib.hid hgu
              have hlx : X < W1.heap.size := blk_lt HBX1.out
              have q0 : W1.cell? ⟨A, 0, none⟩ = some (.slice va n vc) := (blk_cell HAW1.out 0).trans rfl
              clear ho1 hpm hgu hE hfl hrow3 HRD
              go_wp2_with fail
              refine HO1.out.mono ?_
              rintro e w5 ⟨uv, rfl, ⟨va1, n1, vc1, ra1, m1, rc1, rfl, hV1, hR1⟩, hb5⟩
              have HV5 := Lib.hid hV1.a
              have HR5 := Lib.hid hR1.a
              have HBW5 := Lib.hid (fb2 HBW.out hb5 (Nat.le_refl _))
              have HBX5 := Lib.hid (blk_on HBX1.out hb5 hlx)
              have HB15 := Lib.hid hb5
              have q2 : w5.cell? ⟨X, 0, none⟩ = some (.slice va n vc) := (blk_cell HBX5.out 0).trans rfl
              have q3 : w5.cell? ⟨X, 1, none⟩ = some (.slice a3 m c3) := (blk_cell HBX5.out 1).trans rfl
              have hx3 : X < w5.heap.size := blk_lt HBX5.out
              have hx4 : ¬ X = w5.heap.size := by omega
              obtain ⟨P, hP⟩ : ∃ P, w5.heap.size = P := ⟨_, rfl⟩
              obtain ⟨w6, hw6⟩ : ∃ w6, w5.alloc (.cells #[.slice va1 n1 vc1, .slice ra1 m1 rc1] 25) = w6 := ⟨_, rfl⟩
              have HB56 := Lib.hid (show Below w5.heap.size w5 w6 by rw [← hw6]; exact box_below _ _)
              have HP6 := Lib.hid (show Blk w6 P 25 #[.slice va1 n1 vc1, .slice ra1 m1 rc1] by rw [← hw6, ← hP]; exact blk_new _ _ _)
              have HBW6 := Lib.hid (fb2 HBW5.out HB56.out (Nat.le_refl _))
              have HB16 := Lib.hid (fb2 HB15.out HB56.out (Nat.le_refl _))
              have hgu2 := HGU.out w6 (.agg #[.slice va n vc, .slice a3 m c3]) HBW6.out ⟨va, n, vc, a3, m, c3, rfl, HV.out.on HBW6.out, HU1.out.on HB16.out⟩ (HS2.out.on HB16.out)
              have HO2 := Lib.hid hgu2
              have HPE := Lib.hid hP
              have HW6 := Lib.hid hw6
              clear hV1 hR1 hb5 hP hw6 hgu2 q0 q1
              go_wp2_with fail
              rw [HW6.out, HPE.out]
              refine HO2.out.mono ?_
              rintro e w7 ⟨uv, rfl, ⟨va2, n2, vc2, ra2, m2, rc2, rfl, hV2, hR2⟩, hb7⟩
              have HP7 := Lib.hid (blk_on HP6.out hb7 (blk_lt HP6.out))
              have HBW7 := Lib.hid (fb2 HBW6.out hb7 (Nat.le_refl _))
              have HV7 := Lib.hid hV2.a
              have HR7 := Lib.hid hR2.a
              have HV57 := Lib.hid ((HV5.out.on HB56.out).on hb7)
              have HR57 := Lib.hid ((HR5.out.on HB56.out).on hb7)
              have r2 : w7.cell? ⟨P, 0, none⟩ = some (.slice va1 n1 vc1) := (blk_cell HP7.out 0).trans rfl
              have r3 : w7.cell? ⟨P, 1, none⟩ = some (.slice ra1 m1 rc1) := (blk_cell HP7.out 1).trans rfl
              have hp5 : P < w7.heap.size := blk_lt HP7.out
              have hp6 : ¬ P = w7.heap.size := by omega
              obtain ⟨w8, hw8⟩ : ∃ w8, w7.alloc (.cells #[.slice va2 n2 vc2, .slice ra2 m2 rc2] 25) = w8 := ⟨_, rfl⟩
              have HB78 := Lib.hid (show Below w7.heap.size w7 w8 by rw [← hw8]; exact box_below _ _)
              have HBW8 := Lib.hid (fb2 HBW7.out HB78.out (Nat.le_refl _))
              have HW8 := Lib.hid hw8
              have hsr := sameRows_calls VN G1 VN G2 (.agg #[.slice va1 n1 vc1, .slice ra1 m1 rc1]) (.agg #[.slice va2 n2 vc2, .slice ra2 m2 rc2]) w8 ⟨va1, n1, vc1, ra1, m1, rc1, rfl, HV57.out.on HB78.out, HR57.out.on HB78.out⟩ ⟨va2, n2, vc2, ra2, m2, rc2, rfl, HV7.out.on HB78.out, HR7.out.on HB78.out⟩
              rw [same_perm HPP.out] at hsr
              have HSR := Lib.hid hsr
              clear hV2 hR2 hb7 hw8 hsr q2 q3 hx3 hx4
              go_wp2_with fail
              rw [HW8.out]
              refine HSR.out.mono ?_
              rintro e w9 ⟨rfl, hb9⟩
              have HB9 := Lib.hid (fb2 HBW8.out hb9 (Nat.le_refl _))
              clear hb9 r2 r3 hp5 hp6
              go_wp2_with fail
              refine (HAW.out _ (HG.out.on HB9.out)).mono ?_
              rintro e w10 ⟨rfl, hb10⟩
              have HBz := Lib.hid (fb2 HB9.out hb10 (Nat.le_refl _))
              clear hb10
              go_wp2
              go_ret
              exact ⟨rfl, HBz.out⟩
    · have gz : (z != 0) = true := bne_iff_ne.2 hz
      clear hz HGR HLN32
      go_enter Tryz.func7, Tryz.ntmps7
      go_wp2_with fail
      rw [HW0.out, HAE.out]
      refine HLI.out.mono ?_
      rintro e w1 ⟨rfl, hb1⟩
      have HB1 := Lib.hid (fb2 HB0.out hb1 (Nat.le_refl _))
      have HA1 := Lib.hid (blk_on HA0.out hb1 (blk_lt HA0.out))
      clear hb1 q0 q1
      have q0 : w1.cell? ⟨A, 0, none⟩ = some (.slice va n vc) := (blk_cell HA1.out 0).trans rfl
      have q1 : w1.cell? ⟨A, 1, none⟩ = some (.slice ra m rc) := (blk_cell HA1.out 1).trans rfl
      go_wp2_with fail
      refine (HRK.out w1 HB1.out).mono ?_
      rintro e w2 ⟨rfl, hb2⟩
      have HB2 := Lib.hid (fb2 HB1.out hb2 (Nat.le_refl _))
      have HA2 := Lib.hid (blk_on HA1.out hb2 (blk_lt HA1.out))
      clear hb2 q0 q1
      go_wp2_with fail
      refine (HAW.out _ (HG.out.on HB2.out)).mono ?_
      rintro e w3 ⟨rfl, hb3⟩
      have HBz := Lib.hid (fb2 HB2.out hb3 (Nat.le_refl _))
      clear hb3
      go_wp2
      go_ret
      exact ⟨rfl, HBz.out⟩

end Go.Proofs.YtdnfaoanaehjhaaGreatDoor
