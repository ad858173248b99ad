/- Slices of one length side by side are the table: the walk of the statement's function. -/
import Derived.Test.YtkfemnjblbnclaaGreatDoorShpPiece
import Derived.Test.YtkfemnjblbnclaaGreatDoorShpRefRight
import Derived.Test.YtkfemnjblbnclaaGreatDoorShpAwake
namespace Go.Proofs.YtkfemnjblbnclaaGreatDoor
open Go.RowKit

/- slices' values in the cells of a row of rows, in blocks that K tells of -/
def RowCK (K : Nat → Prop) (w : World) (cs : List Value) (F : List RowL) : Prop := cs.length = F.length ∧ ∀ j (h : j < F.length), ∃ a' c', cs[j]? = some (.slice a' F[j].length c') ∧ TrmK K w a' F[j].length c' F[j]
theorem rowCK_nil (K : Nat → Prop) (w : World) : RowCK K w [] [] := ⟨rfl, fun _ h => absurd h (Nat.not_lt_zero _)⟩
theorem RowCK.on {K : Nat → Prop} {w w' : World} {cs : List Value} {F : List RowL} (h : RowCK K w cs F) (hs : Stay K w w') : RowCK K w' cs F := ⟨h.1, fun j hj => by
  obtain ⟨a', c', e, ht⟩ := h.2 j hj
  exact ⟨a', c', e, ht.on hs⟩⟩
theorem RowCK.mono {K K' : Nat → Prop} {w : World} {cs : List Value} {F : List RowL} (h : RowCK K w cs F) (hk : ∀ i, i < w.heap.size → K i → K' i) : RowCK K' w cs F := ⟨h.1, fun j hj => by
  obtain ⟨a', c', e, ht⟩ := h.2 j hj
  exact ⟨a', c', e, ht.mono hk⟩⟩
theorem RowCK.app {K : Nat → Prop} {w : World} {cs ds : List Value} {F G : List RowL} (h : RowCK K w cs F) (k : RowCK K w ds G) : RowCK K w (cs ++ ds) (F ++ G) := by
  obtain ⟨h0, h⟩ := h
  obtain ⟨k0, k⟩ := k
  refine ⟨by rw [List.length_append, List.length_append, h0, k0], fun j hj => ?_⟩
  by_cases e : j < F.length
  · obtain ⟨a', c', e1, e2⟩ := h j e
    rw [List.getElem_append_left e]
    exact ⟨a', c', by rw [List.getElem?_append_left (by omega)]; exact e1, e2⟩
  · rw [List.length_append] at hj
    obtain ⟨a', c', e1, e2⟩ := k (j - F.length) (by omega)
    rw [List.getElem_append_right (by omega)]
    exact ⟨a', c', by rw [List.getElem?_append_right (by omega), h0]; exact e1, e2⟩
theorem own_rows {K : Nat → Prop} {W : World} {B n : Nat} {v : Value} {cs : List Value} {F : List RowL} (h : W.ownsRow B 51 1 v n cs) (hc : RowCK K W cs F) (hn : F.length = n) : ∃ a c, v = .slice a n c ∧ RowA W a n c F := by
  rcases h.2 with ⟨rfl, h0⟩ | ⟨g, cap, cur, rfl, hg, hblk, h1, h2, h3, h4⟩
  · subst h0
    have : F = [] := List.eq_nil_of_length_eq_zero hn
    subst this
    exact ⟨_, _, rfl, (row_nil (fun _ => True) W none 0 (Nat.zero_le _)).a⟩
  · refine ⟨_, _, rfl, hn, h1, h2, fun h0 => ⟨g, 0, rfl, (Array.getElem?_eq_some_iff.1 hblk).1, fun j hj => ?_⟩⟩
    obtain ⟨a', c', e1, e2⟩ := hc.2 j hj
    refine ⟨a', c', ?_, e2.a⟩
    rw [Nat.zero_add, h.cellAt j (by omega)]
    exact e1
/- the cells of a slice of rows -/
theorem rows_cells {K : Nat → Prop} {w : World} {g o n c : Nat} {F : List RowL} (h : RowK K w (some ⟨g, o, none⟩) n c F) (h0 : 0 < n) : ∃ cs, RowCK K w cs F ∧ (∀ j u, cs[j]? = some u → w.cell? ((⟨g, o, none⟩ : Addr).add j) = some u) ∧ ∀ u ∈ cs, u.oneCell' = true := by
  obtain ⟨g', o', e, hg, hk, hc⟩ := h.cells h0
  cases e
  have H : ∀ k, k ≤ F.length → ∃ cs : List Value, cs.length = k ∧ (∀ j (hj : j < F.length), j < k → ∃ a' c', cs[j]? = some (.slice a' F[j].length c') ∧ TrmK K w a' F[j].length c' F[j]) ∧ (∀ j u, cs[j]? = some u → w.cell? ((⟨g, o, none⟩ : Addr).add j) = some u) ∧ ∀ u ∈ cs, u.oneCell' = true := by
    intro k
    induction k with
    | zero => intro _; exact ⟨[], rfl, fun _ _ h => absurd h (Nat.not_lt_zero _), fun j u h => by simp at h, fun u h => absurd h List.not_mem_nil⟩
    | succ k ih =>
      intro hk
      obtain ⟨cs, e1, e2, e3, e4⟩ := ih (by omega)
      obtain ⟨a', c', d1, d2⟩ := hc k (by omega)
      refine ⟨cs ++ [.slice a' (F[k]'(by omega)).length c'], by rw [List.length_append, e1]; rfl, fun j hj hjk => ?_, fun j u hu => ?_, fun u hu => ?_⟩
      · by_cases e : j < k
        · obtain ⟨x, y, f1, f2⟩ := e2 j hj e
          exact ⟨x, y, by rw [List.getElem?_append_left (by omega)]; exact f1, f2⟩
        · have ej : j = k := by omega
          subst ej
          exact ⟨a', c', by rw [List.getElem?_append_right (by omega), e1, Nat.sub_self]; rfl, d2⟩
      · by_cases e : j < k
        · exact e3 j u (by rw [List.getElem?_append_left (by omega)] at hu; exact hu)
        · rw [List.getElem?_append_right (by omega)] at hu
          have ej : j = k := by
            have := (List.getElem?_eq_some_iff.1 hu).1
            simp at this
            omega
          subst ej
          rw [e1, Nat.sub_self] at hu
          have eu : Value.slice a' (F[j]'(by omega)).length c' = u := by simpa using hu
          rw [add_at, ← eu]
          exact d1
      · rcases List.mem_append.1 hu with hu | hu
        · exact e4 u hu
        · rw [List.mem_singleton] at hu
          rw [hu]; rfl
  obtain ⟨cs, e1, e2, e3, e4⟩ := H F.length (Nat.le_refl _)
  exact ⟨cs, ⟨e1, fun j hj => e2 j hj hj⟩, e3, e4⟩

theorem own_cells {w : World} {B size n : Nat} {e : TypeId} {v : Value} {xs : List Value} (h : w.ownsRow B e size v n xs) : v.cells = #[v] ∧ v.oneCell' = true := by
  rcases h.2 with ⟨rfl, _⟩ | ⟨g, cap, cur, rfl, _⟩
  · exact ⟨rfl, rfl⟩
  · exact ⟨rfl, rfl⟩
theorem tile_len (nn : Int) : ∃ N : Nat, wrap64 (1 + wrap64 ((IntKind.u64.wrap nn).tmod 10)) = N ∧ 1 ≤ N ∧ N ≤ 10 := by
  have h0 : 0 ≤ IntKind.u64.wrap nn := by simp [IntKind.wrap, IntKind.bits, IntKind.signed]; omega
  have e : (IntKind.u64.wrap nn).tmod 10 = (IntKind.u64.wrap nn) % 10 := Int.tmod_eq_emod_of_nonneg h0
  have e2 : ∀ x : Int, 0 ≤ x → x ≤ 100 → wrap64 x = x := fun x h1 h2 => by unfold wrap64; omega
  have h1 : 0 ≤ IntKind.u64.wrap nn % 10 := by omega
  have h2 : IntKind.u64.wrap nn % 10 < 10 := by omega
  rw [e]
  generalize IntKind.u64.wrap nn % 10 = q at h1 h2
  rw [e2 q (by omega) (by omega), e2 (1 + q) (by omega) (by omega)]
  exact ⟨(1 + q).toNat, by omega, by omega, by omega⟩
theorem piece_ok {V : List (List UInt8)} {R : List RowL} (h : rightT V R = true) (a N : Nat) : pieceE V R a N = 0 ∧ pieceV V R a N = V ∧ pieceR V R a N = (R.drop a).take N := by
  have he : pieceE V R a N = 0 := by unfold pieceE; rw [if_pos h, if_neg (by omega)]
  refine ⟨he, if_pos he, ?_⟩
  unfold pieceR cutP
  rw [if_pos he, if_neg (by omega), Int.toNat_natCast, Int.toNat_natCast]
structure TileR (w : World) (A X B1 : Nat) (vs rs v : Value) (F : List RowL) (wr : World) : Prop where
  arg : Blk wr A 31 #[vs, rs]
  all : Blk wr X 31 #[vs, v]
  own : ∃ cs, wr.ownsRow B1 51 1 v F.length cs ∧ RowCK (fun i => i ≠ X ∧ v.ownBlock ≠ some i) wr cs F
  below : Below w.heap.size w wr
  size : B1 ≤ wr.heap.size

set_option maxRecDepth 100000 in
set_option maxHeartbeats 8000000 in
theorem shapeTiles_calls (V : List (List UInt8)) (R : List RowL) (nn : Int) (hx : okV V) (hr : okR R) (tv : Value) (w : World) (hg : Nm.Good w) (ht : TabA w tv V R) :
    Calls Tryz.prog 10 #[tv, .int .i64 nn] w fun e w' => e = .returned (.bool true) ∧ Below w.heap.size w w' := by
  obtain ⟨i0, hi, hz0, hz1, hz2⟩ := info_parts info_row
  obtain ⟨va, n, vc, ra, m, rc, rfl, hV, hR⟩ := ht
  obtain ⟨A, hA⟩ : ∃ A, w.heap.size = A := ⟨_, rfl⟩
  obtain ⟨W0, hW0⟩ : ∃ W0, w.alloc (.cells #[.slice va n vc, .slice ra m rc] 31) = W0 := ⟨_, rfl⟩
  have HB0 := Lib.hid (show Below w.heap.size w W0 by rw [← hW0]; exact box_below _ _)
  have hA0 : Blk W0 A 31 #[.slice va n vc, .slice ra m rc] := by rw [← hW0, ← hA]; exact blk_new _ _ _
  have HV := Lib.hid hV
  have HR := Lib.hid hR
  have HG := Lib.hid hg
  have HOV := Lib.hid hx
  have HOR := Lib.hid hr
  have HVL := Lib.hid hV.len
  have HRL := Lib.hid hR.len
  have hTB : ∀ W, Below w.heap.size w W → TabA W (.agg #[.slice va n vc, .slice ra m rc]) V R := fun W hb => ⟨va, n, vc, ra, m, rc, rfl, hV.on hb, hR.on hb⟩
  have HTB := Lib.hid hTB
  have HLI := Lib.hid (fun W (hb : Below w.heap.size w W) => light_calls V R _ W (hTB W hb))
  have HRI := Lib.hid (fun W (hb : Below w.heap.size w W) => tabRight_calls V R hx hr va ra n vc m rc W (hV.on hb) (hR.on hb))
  have HAW := Lib.hid (fun W hW => awake_calls W hW)
  have HAE := Lib.hid hA
  have HW0 := Lib.hid hW0
  clear hV hR hg hx hr hA hW0 hTB
  have q0 : W0.cell? ⟨A, 0, none⟩ = some (.slice va n vc) := (blk_cell hA0 0).trans rfl
  have q1 : W0.cell? ⟨A, 1, none⟩ = some (.slice ra m rc) := (blk_cell hA0 1).trans rfl
  have hl := blk_lt hA0
  have HA0 := Lib.hid hA0
  clear hA0
  cases hli : lightB V R with
  | false =>
    rw [hli] at HLI
    go_enter Tryz.func10, Tryz.ntmps10
    go_wp2_with fail
    rw [HW0.out, HAE.out]
    refine (HLI.out _ HB0.out).mono ?_
    rintro e w1 ⟨rfl, hb1⟩
    have HB1 := Lib.hid (fb2 HB0.out hb1 (Nat.le_refl _))
    clear hb1
    go_wp2_with fail
    refine (HAW.out _ (HG.out.on HB1.out)).mono ?_
    rintro e w2 ⟨rfl, hb2⟩
    have HB2 := Lib.hid (fb2 HB1.out hb2 (Nat.le_refl _))
    clear hb2
    go_wp2
    go_ret
    exact ⟨rfl, HB2.out⟩
  | true =>
    rw [hli] at HLI
    have hm40 : m ≤ 40 := by
      unfold lightB at hli
      simp only [Bool.and_eq_true, decide_eq_true_eq] at hli
      have := HRL.out
      omega
    clear hli
    cases hri : rightT V R with
    | false =>
      rw [hri] at HRI
      clear hri
      go_enter Tryz.func10, Tryz.ntmps10
      go_wp2_with fail
      rw [HW0.out, HAE.out]
      refine (HLI.out _ HB0.out).mono ?_
      rintro e w1 ⟨rfl, hb1⟩
      have HB1 := Lib.hid (fb2 HB0.out hb1 (Nat.le_refl _))
      replace q0 := keptC q0 hb1 hl
      replace q1 := keptC q1 hb1 hl
      clear hb1
      go_wp2_with fail
      refine (HRI.out _ HB1.out).mono ?_
      rintro e w2 ⟨rfl, hb2⟩
      have HB2 := Lib.hid (fb2 HB1.out hb2 (Nat.le_refl _))
      clear hb2
      go_wp2_with fail
      refine (HAW.out _ (HG.out.on HB2.out)).mono ?_
      rintro e w3 ⟨rfl, hb3⟩
      have HB3 := Lib.hid (fb2 HB2.out hb3 (Nat.le_refl _))
      clear hb3
      go_wp2
      go_ret
      exact ⟨rfl, HB3.out⟩
    | true =>
      rw [hri] at HRI
      have HRT := Lib.hid hri
      clear hri
      go_enter Tryz.func10, Tryz.ntmps10
      go_wp2_with fail
      rw [HW0.out, HAE.out]
      refine (HLI.out _ HB0.out).mono ?_
      rintro e w1 ⟨rfl, hb1⟩
      have HB1 := Lib.hid (fb2 HB0.out hb1 (Nat.le_refl _))
      have HA1 := Lib.hid (blk_on HA0.out hb1 hl)
      replace q0 := keptC q0 hb1 hl
      replace q1 := keptC q1 hb1 hl
      replace hl := Nat.lt_of_lt_of_le hl hb1.size
      clear hb1
      go_wp2_with fail
      refine (HRI.out _ HB1.out).mono ?_
      rintro e w2 ⟨rfl, hb2⟩
      have HB2 := Lib.hid (fb2 HB1.out hb2 (Nat.le_refl _))
      have HA2 := Lib.hid (blk_on HA1.out hb2 hl)
      replace q0 := keptC q0 hb2 hl
      replace q1 := keptC q1 hb2 hl
      replace hl := Nat.lt_of_lt_of_le hl hb2.size
      clear hb2
      obtain ⟨N, hN, hN1, hN2⟩ := tile_len nn
      have HN := Lib.hid hN
      clear hN
      go_wp2
      rw [HN.out]
      obtain ⟨X, hX⟩ : ∃ X, w2.heap.size = X := ⟨_, rfl⟩
      have HXE := Lib.hid hX
      rw [hX]
      have hS1 : TileR w A X (X + 1) (.slice va n vc) (.slice ra m rc) (.slice none 0 0) (R.take 0) (w2.alloc (.cells #[.slice va n vc, .slice none 0 0] 31)) :=
        ⟨blk_alloc HA2.out _, by rw [← hX]; exact blk_new _ _ _, ⟨[], by rw [List.take_zero]; exact World.ownsRow_nil _ _ _ _, by rw [List.take_zero]; exact rowCK_nil _ _⟩, fb2 HB2.out (box_below _ _) (Nat.le_refl _), by rw [← hX]; simp⟩
      have HS1 := Lib.hid hS1
      have HAX := Lib.hid (show A < X by omega)
      clear hS1 hX q0 q1 hl
      go_loopg [6, 8] m (fun g i _ wr => ∃ (a : Nat) (v : Value), i = .int .i64 a ∧ m ≤ a + g ∧ a ≤ m + 10 ∧ Hid (TileR w A X (X + 1) (.slice va n vc) (.slice ra m rc) v (R.take a) wr))
      case atStart => exact ⟨0, _, rfl, by omega, by omega, HS1⟩
      case round =>
        obtain ⟨W1, rfl⟩ : ∃ W1, W1 = wr := ⟨_, rfl⟩
        obtain ⟨a, v, rfl, hag, ham, HRD⟩ := hrel
        have q0 : W1.cell? ⟨A, 0, none⟩ = some (.slice va n vc) := (blk_cell HRD.out.arg 0).trans rfl
        have q1 : W1.cell? ⟨A, 1, none⟩ = some (.slice ra m rc) := (blk_cell HRD.out.arg 1).trans rfl
        by_cases ha : a < m
        · obtain ⟨gg, rfl⟩ : ∃ gg, gk = gg + 1 := ⟨gk - 1, by omega⟩
          obtain ⟨p1, p2, p3⟩ := piece_ok HRT.out a N
          have HBW := Lib.hid HRD.out.below
          have hsl := slice_calls V R a N HOV.out HOR.out _ W1 (HTB.out W1 HBW.out)
          rw [p1, p2, p3] at hsl
          have HSL := Lib.hid hsl
          have HL2 := Lib.hid (show ((R.drop a).take N).length = min N (m - a) by rw [List.length_take, List.length_drop, HRL.out])
          have HL1 := Lib.hid (show (R.take a).length = a by rw [List.length_take]; have := HRL.out; omega)
          have HTK := Lib.hid (show R.take a ++ (R.drop a).take N = R.take (a + N) from List.take_add.symm)
          obtain ⟨cs, hown, hrc⟩ := HRD.out.own
          rw [HL1.out] at hown
          have HOW := Lib.hid hown
          have HRC := Lib.hid hrc
          have HXB := Lib.hid HRD.out.all
          have hlx := blk_lt HRD.out.all
          have HOB : Hid (∀ e, Value.ownBlock v = some e → X + 1 ≤ e ∧ e < W1.heap.size) := Lib.hid (fun e he => hown.lt e he)
          have HSZ := Lib.hid HRD.out.size
          have k0 : (0 : Int) ≤ (a : Int) := by omega
          have k1 : (a : Int) < (m : Int) := by omega
          clear hsl p1 p2 p3 hown hrc
          go_wp2_with fail
          refine HSL.out.mono ?_
          rintro e w3 ⟨uv, rfl, ⟨va2, n2, vc2, ra2, m2, rc2, rfl, hT2, hR2⟩, hb3⟩
          have hm2 : m2 = min N (m - a) := hR2.len.symm.trans HL2.out
          have hm3 : 1 ≤ m2 ∧ m2 ≤ N ∧ m2 ≤ m - a := by omega
          have HM2 := Lib.hid hm2
          clear hm2
          obtain ⟨g2, o2, rfl, hg2, _, _⟩ := hR2.cells (by omega)
          have hc2 := hR2.cap
          have hc3 := hR2.most
          unfold maxLen at hc3
          have HB3 := Lib.hid hb3
          have HX3 := Lib.hid (blk_on HXB.out hb3 hlx)
          have hq5 : w3.cell? ⟨X, 1, none⟩ = some v := (blk_cell HX3.out 1).trans rfl
          have hlx3 : X < w3.heap.size := Nat.lt_of_lt_of_le hlx hb3.size
          obtain ⟨ds, hds, hnw, hon⟩ := rows_cells hR2 (by omega)
          have HDS := Lib.hid hds
          have HDL := Lib.hid (show ds.length = m2 * 1 by rw [hds.1, hR2.len, Nat.mul_one])
          have HNW := Lib.hid (fun (T : TypeId) (c : Array Value) j u (hu : ds[j]? = some u) => (show (w3.alloc (.cells c T)).cell? ((⟨g2, o2, none⟩ : Addr).add j) = some u by
            have := hnw j u hu
            rw [add_at] at this ⊢
            exact keptC this (box_below _ _) hg2))
          have HON := Lib.hid hon
          have HOW3 := Lib.hid (HOW.out.kept (row := none) ⟨hb3.os, hb3.tape, hb3.output, hb3.size, fun i hi _ => hb3.block i hi⟩ (by
            cases hq : v.ownBlock with
            | none => exact .inl rfl
            | some x => exact .inr (by simp)))
          have HA1L := Lib.hid (show a + m2 ≤ maxLen by unfold maxLen; omega)
          have HA3L := Lib.hid (show (a + m2) * 24 ≤ 140737488355328 by omega)
          have HS3 := Lib.hid (show X + 1 ≤ w3.heap.size by omega)
          have k2 : ¬ (N : Int) < (m2 : Int) := by omega
          clear hb3 hds hnw hon hT2 hR2 hg2 q0 q1
          go_wp2_with (first
            | (at_builtin; (refine wpList_append_own_at _ rfl (.tmp 51) (.tmp 53) 29 rfl (X + 1) 51 i0 (.slice none 0 0) 1 24 Tryz.underlying29 hi hz0 hz1 hz2 rfl (by decide) v _ _ rfl (HOW3.out.alloc _) ⟨g2, o2, none⟩ m2 rc2 ds rfl HDL.out (HNW.out _ _) HON.out HA1L.out HA3L.out (Nat.le_trans HS3.out (by simp)) ?_; intro v4 w4 ho4 hg4 _ hob4; have HO4 := Lib.hid ho4; have HG4 := Lib.hid hg4; have HOB4 := Lib.hid hob4; have HX4 := Lib.hid (show Blk w4 X 31 #[.slice va n vc, v] from (hg4.block X (by simp; omega) (fun e => by have := HOB.out _ e.symm; omega)).trans (blk_alloc HX3.out _)); clear ho4 hg4 hob4))
            | (refine one_abs 29 (.tmp 55) (.tmp 54) ⟨rfl, rfl⟩ X 1 v4 rfl rfl (own_cells HO4.out).1 (own_cells HO4.out).2 31 [.slice va n vc, v] HX4.out (by kernel_rfl) (by simp) ?_; intro w5 hX5 hg5))
          have HR5 := Lib.hid (show TileR w A X (X + 1) (.slice va n vc) (.slice ra m rc) v4 (R.take (a + N)) w5 from by
            have hxo : ∀ e, v4.ownBlock = some e → X + 1 ≤ e := fun e he => own_from HO4.out e he
            have hst4 : ∀ i, i < w3.heap.size → v.ownBlock ≠ some i → w4.heap[i]? = w3.heap[i]? := fun i hi hne => (HG4.out.block i (by simp; omega) (fun e => hne e.symm)).trans (Below.heap_alloc _ _ _ hi)
            have hs4 : w3.heap.size ≤ w4.heap.size := Nat.le_trans (by simp) HG4.out.size
            have hSt : Stay (fun i => i ≠ X ∧ v.ownBlock ≠ some i) w3 w5 := ⟨Nat.le_trans hs4 hg5.out.size, fun i hi hk => (hg5.out.block i (Nat.lt_of_lt_of_le hi hs4) (fun e => hk.1 (by injection e))).trans (hst4 i hi hk.2)⟩
            have hK : ∀ i, i < w3.heap.size → (i ≠ X ∧ v.ownBlock ≠ some i) → (i ≠ X ∧ v4.ownBlock ≠ some i) := fun i hi hk => ⟨hk.1, fun e => by
              rcases HOB4.out with h | h
              · exact hk.2 (by rw [← h]; exact e)
              · rw [h] at e
                injection e with e
                simp at e
                omega⟩
            have hold : RowCK (fun i => i ≠ X ∧ v.ownBlock ≠ some i) w3 (cs ++ ds) (R.take a ++ (R.drop a).take N) := by
              refine (HRC.out.on (stay_below HB3.out)).app (HDS.out.mono (fun i _ hi => ⟨by omega, fun e => by have := HOB.out _ e; omega⟩))
            rw [HTK.out] at hold
            refine ⟨blk_grown ((hst4 A (by have := HAX.out; omega) (fun e => by have := HOB.out _ e; have := HAX.out; omega)).trans (blk_on HRD.out.arg HB3.out (blk_lt HRD.out.arg))) (by have := HAX.out; omega) hg5.out, hX5.out, ⟨cs ++ ds, ?_, ((hold.mono (K' := fun i => i < w3.heap.size ∧ (i ≠ X ∧ v.ownBlock ≠ some i)) (fun i hi hk => ⟨hi, hk⟩)).on (hSt.mono (fun i _ hk => hk.2))).mono (fun i _ hk => hK i hk.1 hk.2)⟩, ?_, ?_⟩
            · rw [← HTK.out, List.length_append, HL1.out, HL2.out, ← HM2.out]
              exact HO4.out.kept hg5.out (.inr (fun e => by have := hxo _ e; omega))
            · have h3 := fb2 (fb2 HBW.out HB3.out (Nat.le_refl _)) (box_below w3 (.cells #[.slice va2 n2 vc2, .slice (some ⟨g2, o2, none⟩) m2 rc2] 31)) (Nat.le_refl _)
              have hae := HAE.out
              have hax := HAX.out
              have h4 := h3.grown HG4.out h3.size (fun j hj => by have := HOB.out _ hj; omega)
              exact h4.grown hg5.out h4.size (fun j hj => by injection hj with hj; omega)
            · have h1 := HS3.out
              have h2 := hg5.out.size
              omega)
          clear hX5 hg5
          go_roundg gg
          case measure => omega
          case rel => exact ⟨a + N, v4, by go_num, by omega, by omega, HR5⟩
        · have hE : R.take a = R := List.take_of_length_le (by have := HRL.out; omega)
          have k1 : ¬ (a : Int) < (m : Int) := by omega
          obtain ⟨cs, hown, hrc⟩ := HRD.out.own
          rw [hE] at hown hrc
          obtain ⟨a3, c3, rfl, hrow3⟩ := own_rows hown hrc rfl
          have HBW := Lib.hid HRD.out.below
          have HSM := Lib.hid (tabSame_calls V V R R _ _ W1 ⟨va, n, vc, a3, R.length, c3, rfl, HV.out.on HBW.out, hrow3⟩ (HTB.out W1 HBW.out))
          rw [decide_eq_true (show V = V ∧ R = R from ⟨rfl, rfl⟩)] at HSM
          have q2 : W1.cell? ⟨X, 0, none⟩ = some (.slice va n vc) := (blk_cell HRD.out.all 0).trans rfl
          have q3 : W1.cell? ⟨X, 1, none⟩ = some (.slice a3 R.length c3) := (blk_cell HRD.out.all 1).trans rfl
          clear hown hrc hrow3 hE
          go_wp2_with fail
          refine HSM.out.mono ?_
          rintro e w3 ⟨rfl, hb3⟩
          have HB3 := Lib.hid (fb2 HBW.out hb3 (Nat.le_refl _))
          clear hb3
          go_wp2_with fail
          refine (HAW.out _ (HG.out.on HB3.out)).mono ?_
          rintro e w4 ⟨rfl, hb4⟩
          have HB4 := Lib.hid (fb2 HB3.out hb4 (Nat.le_refl _))
          clear hb4
          go_wp2
          go_ret
          exact ⟨rfl, HB4.out⟩

end Go.Proofs.YtkfemnjblbnclaaGreatDoor
