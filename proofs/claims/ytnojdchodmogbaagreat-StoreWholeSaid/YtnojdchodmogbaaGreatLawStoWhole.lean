/- The law StoreWhole: it is true of any triples. -/
import Derived.Test.YtnojdchodmogbaaGreatStoLawPlain
import Derived.Test.YtnojdchodmogbaaGreatRefMatch
import Derived.Test.YtnojdchodmogbaaGreatRefSame
import Derived.Test.YtnojdchodmogbaaGreatStoRows
import Derived.Test.YtnojdchodmogbaaGreatStoAwake
namespace Go.Proofs.YtnojdchodmogbaaGreat
open Go.RowKit

def wholeP : TripL := ⟨⟨4, [120], [], []⟩, ⟨4, [121], [], []⟩, ⟨4, [122], [], []⟩⟩
theorem whole_ok : wholeP.ok := by unfold TripL.ok TermL.ok; decide
theorem whole_pat : patB wholeP = true := by kernel_rfl
theorem whole_vars : (varsL wholeP).length = 3 := by kernel_rfl
theorem whole_match (t : TripL) : matchB wholeP t = true := by
  have h1 : ¬ ([120] : List UInt8) = [121] := by decide
  have h2 : ¬ ([120] : List UInt8) = [122] := by decide
  have h3 : ¬ ([121] : List UInt8) = [122] := by decide
  simp [matchB, fitsB, twiceB, wholeP, h1, h2, h3]
theorem whole_all (R : List TripL) : R.filter (matchB wholeP) = R := List.filter_eq_self.2 fun t _ => whole_match t

/- the rows of the table: each is a block of terms that nothing else is in -/
def RowsIn (w : World) (gs : List Nat) : Prop := ∀ g ∈ gs, ∃ xs : List Value, xs.length = 12 ∧ Blk w g 27 xs.toArray
theorem RowsIn.kept {F : Nat → Prop} {w w' : World} {gs : List Nat} (h : RowsIn w gs) (hk : Kept F w w') (hF : ∀ g ∈ gs, ¬ F g) : RowsIn w' gs := fun g hg => by
  obtain ⟨xs, h1, h2⟩ := h g hg
  exact ⟨xs, h1, blk_kept h2 hk (hF g hg)⟩
theorem RowsIn.on {w w' : World} {gs : List Nat} (h : RowsIn w gs) (hb : Below w.heap.size w w') : RowsIn w' gs := fun g hg => by
  obtain ⟨xs, h1, h2⟩ := h g hg
  exact ⟨xs, h1, blk_on h2 hb (blk_lt h2)⟩
theorem RowsIn.set {w w' : World} {gs : List Nat} {g : Nat} {ys : List Value} (h : RowsIn w gs) (hl : ys.length = 12) (hB : Blk w' g 27 ys.toArray) (hG : w.grownBy w' (some g)) : RowsIn w' gs := fun i hi => by
  by_cases he : i = g
  · subst he; exact ⟨ys, hl, hB⟩
  · obtain ⟨xs, h1, h2⟩ := h i hi
    exact ⟨xs, h1, (hG.block i (blk_lt h2) (fun c => he (by injection c))).trans h2⟩
theorem tab_rows {w : World} {B : Nat} {tv : Value} {M : List TripL} (h : TableT w B tv wholeP M) : ∃ va vc G gs, tv = .agg #[.slice va 3 vc, .slice (some ⟨G, 0, none⟩) M.length M.length] ∧ gs.length = M.length ∧ Blk w G 65 (gs.map (rowV 3)).toArray ∧ RowsIn w gs ∧ B ≤ G ∧ ∀ g ∈ gs, B ≤ g := by
  obtain ⟨vv, G, rfl, hV, hG, gs, hl, hB, hr⟩ := h
  obtain ⟨va, vc, rfl⟩ := owns_slice hV
  rw [whole_vars] at hB ⊢
  have key : ∀ g ∈ gs, B ≤ g ∧ ∃ xs : List Value, xs.length = 12 ∧ Blk w g 27 xs.toArray := fun g hg => by
    obtain ⟨j, hj, rfl⟩ := List.getElem_of_mem hg
    obtain ⟨h1, t, ht, hb⟩ := hr j gs[j] (List.getElem?_eq_getElem hj)
    refine ⟨h1, _, ?_, hb⟩
    rw [cellsT_length]
    unfold rowP
    rw [List.length_map, fp_vars whole_pat, whole_vars]
  refine ⟨va, vc, G, gs, rfl, hl, by simpa using hB, fun g hg => (key g hg).2, hG, fun g hg => (key g hg).1⟩

theorem trip_abs {ops : Array Oper} {rest : List Oper} {o : Oper} {a : Act} {w : World} {Q : Exit → Act → World → Prop} (x y : Operand) (ho : o.op = .store 29 x y ∧ o.guard = none)
    (g off : Nat) (cells : Array Value) (hx : a.eval x = .pointer (some ⟨g, off, none⟩)) (hy : a.eval y = .agg cells) (hi : (Tryz.prog.info? 29).map (·.size) = some cells.size) (h1 : cells.all (·.oneCell') = true)
    (xs ys : List Value) (hR : Blk w g 29 xs.toArray) (e : xs.take off ++ cells.toList ++ xs.drop (off + cells.toList.length) = ys) (hfit : off + cells.toList.length ≤ xs.length)
    (h : ∀ w', Hid (Blk w' g 29 ys.toArray) → Hid (w.grownBy w' (some g)) → wpList Tryz.prog ops Q rest (a.put o.dst undef) w') : wpList Tryz.prog ops Q (o :: rest) a w := by
  refine wpList_store_at ho.2 29 x y ho.1 g off cells hx hy 29 xs.toArray hR hi (by simpa using hfit) h1 ?_
  refine h _ ?_ (grown_set _ _ _)
  have := blk_row hR ys.toArray
  rw [← e]
  rw [← e] at this
  exact this
/- a list of triples that is one's own, whole -/
theorem own_whole {w : World} {B n : Nat} {v : Value} {l : List TripL} (h : Own w B v l) (hn : l.length = n) : ∃ a c, v = .slice a n c ∧ ∃ g, B ≤ g ∧ (0 < n → a = some ⟨g, 0, none⟩ ∧ n ≤ c ∧ ∃ xs : List Value, n * 12 ≤ xs.length ∧ Blk w g 29 xs.toArray) := by
  have h2 := h.2
  rw [hn] at h2
  rcases h2 with ⟨rfl, h0⟩ | ⟨g, cap, cur, rfl, hb, hg, hn, _, hs, _⟩
  · exact ⟨none, 0, by rw [h0], B, Nat.le_refl _, fun h => absurd h (by omega)⟩
  · have h5 : cur.toList.length = cap * 12 := by
      rw [Array.length_toList]
      exact hs
    exact ⟨_, cap, rfl, g, hb, fun _ => ⟨rfl, hn, cur.toList, by omega, hg⟩⟩

/- what the first rounds keep: k of the rows are written over -/
def WholeR (W3 : World) (gs : List Nat) (N : Nat) (i : Value) (wr : World) : Prop := ∃ k : Nat, k ≤ N ∧ i = .int .i64 k ∧ RowsIn wr gs ∧ Kept (fun j => j ∈ gs) W3 wr
/- and the second ones -/
def WholeR2 (W5 : World) (g N : Nat) (i : Value) (wr : World) : Prop := ∃ k : Nat, k ≤ N ∧ i = .int .i64 k ∧ (0 < N → ∃ xs : List Value, N * 12 ≤ xs.length ∧ Blk wr g 29 xs.toArray) ∧ Kept (fun j => j = g) W5 wr

set_option maxRecDepth 100000 in
set_option maxHeartbeats 8000000 in
theorem storeWhole_calls (L : List TripL) (v : Value) (w : World) (hv : ArgT w v L) (hok : ∀ t ∈ L, t.ok) :
    Calls Tryz.prog 8 #[v] w fun e w' => e = .returned (.bool true) ∧ Below w.heap.size w w' := by
  have hmade := Lib.hid (made_calls L v w hv hok)
  have hR60 := Lib.hid (madeL_length L)
  clear hv hok
  obtain ⟨R, hRe⟩ : ∃ R, madeL L = R := ⟨_, rfl⟩
  have HRE := Lib.hid hRe
  rw [hRe] at hR60
  clear hRe
  go_enter Tryz.func8, Tryz.ntmps8
  go_wp2_with fail
  refine hmade.out.mono ?_
  rintro e w1 ⟨b, v', rfl, v0, v1, v2, l1, l2, hs, hr, _, hb1⟩
  rw [HRE.out] at hs hr
  have HS1 := Lib.hid hs
  have HR1 := Lib.hid hr
  have HB1 := Lib.hid hb1
  clear hs hr hb1 hmade HRE
  go_wp2_with fail
  refine (law_name _ _).mono ?_
  rintro e wa ⟨rfl, hba⟩
  go_wp2_with fail
  refine (law_name _ _).mono ?_
  rintro e wb ⟨rfl, hbb⟩
  replace hba := first_below hba hbb
  clear hbb
  go_wp2_with fail
  refine (law_name _ _).mono ?_
  rintro e wc ⟨rfl, hbc⟩
  replace hba := first_below hba hbc
  clear hbc
  have HSc := Lib.hid (sto_on HS1.out hba (Nat.le_refl _))
  have HRc := Lib.hid (reads_on HR1.out hba (Nat.le_refl _))
  have HBc := Lib.hid (first_below HB1.out hba)
  have bz := Lib.hid (blk_new wc 29 (cells12 noTrip))
  have hbz := Lib.hid (box_below wc (.cells (cells12 noTrip) 29))
  clear hba HS1 HR1 HB1
  go_wp2_with (refine whole_abs 29 (.tmp 5) (.tmp 19) ⟨rfl, rfl⟩ wc.heap.size (cells12 wholeP) (by kernel_rfl) (by kernel_rfl) 29 (cells12 noTrip) bz.out (by kernel_rfl) rfl (by kernel_rfl) ?_; intro w2 hA2 hG2; obtain ⟨⟨c0, c1, c2, c3⟩, ⟨c4, c5, c6, c7⟩, ⟨c8, c9, c10, c11⟩⟩ := box12_of hA2.out)
  have hb2 : Below wc.heap.size wc w2 := hbz.out.grown hG2.out hbz.out.size (fun k hk => by injection hk with hk; omega)
  have HS2 := Lib.hid (sto_on HSc.out hb2 (Nat.le_refl _))
  have HR2 := Lib.hid (reads_on HRc.out hb2 (Nat.le_refl _))
  have HB2 := Lib.hid (first_below HBc.out hb2)
  clear hb2 hbz bz HSc HRc HBc hG2 hA2
  refine (Match_calls _ b v0 v1 v2 R l1 l2 wholeP whole_ok _ HS2.out).mono ?_
  rintro e w3 ⟨hb3, hM⟩
  clear c0 c1 c2 c3 c4 c5 c6 c7 c8 c9 c10 c11
  rw [if_pos whole_pat, whole_all] at hM
  obtain ⟨tv, rfl, hT⟩ := hM
  obtain ⟨va, vc, G, gs, rfl, hgl, hG, hrows, hGB, hgB⟩ := tab_rows hT
  clear hT
  have HS3 := Lib.hid (sto_on HS2.out hb3 (Nat.le_refl _))
  have HR3 := Lib.hid (reads_on HR2.out hb3 (Nat.le_refl _))
  have HB3 := Lib.hid (first_below HB2.out hb3)
  have hfoot := Lib.hid (show ∀ k, Foot b v0 v1 v2 k → k < w2.heap.size from fun k hk => (sto_foot HS2.out hk).2)
  have hvblk := Lib.hid (show ∀ k, v'.ownBlock = some k → k < w2.heap.size from fun k hk => reads_block HR2.out hk)
  have h23 := Lib.hid hb3.size
  clear hb3 HS2 HR2 HB2
  obtain ⟨ra, rc, hve, _⟩ := reads_open HR3.out
  subst hve
  obtain ⟨N, hN⟩ : ∃ N, R.length = N := ⟨_, rfl⟩
  rw [hN] at hgl ⊢
  have hN60 : N ≤ 60 := by rw [← hN]; exact hR60.out
  have HN := Lib.hid hN
  clear hN
  have gN : ((N : Int) == (N : Int)) = true := by simp
  have HGB := Lib.hid hgB
  have HGL := Lib.hid hgl
  have bT := Lib.hid (blk_new w3 56 #[.slice va 3 vc, .slice (some ⟨G, 0, none⟩) N N])
  have b3a := Lib.hid (box_below w3 (.cells #[.slice va 3 vc, .slice (some ⟨G, 0, none⟩) N N] 56))
  obtain ⟨W4, hW4⟩ : ∃ W4, w3.alloc (.cells #[.slice va 3 vc, .slice (some ⟨G, 0, none⟩) N N] 56) = W4 := ⟨_, rfl⟩
  rw [hW4] at bT b3a
  have HG4 := Lib.hid (blk_on hG b3a.out (blk_lt hG))
  have hrows4 := Lib.hid (hrows.on b3a.out)
  have HS4 := Lib.hid (sto_on HS3.out b3a.out (Nat.le_refl _))
  have HR4 := Lib.hid (reads_on HR3.out b3a.out (Nat.le_refl _))
  have HB4 := Lib.hid (first_below HB3.out b3a.out)
  have hglt := Lib.hid (show ∀ g ∈ gs, g < w3.heap.size from fun g hg => by obtain ⟨xs, _, h2⟩ := hrows g hg; exact blk_lt h2)
  have hGn := Lib.hid (show ¬ G ∈ gs from fun c => by obtain ⟨xs, _, h2⟩ := hrows G c; exact blk_kinds hG h2 (by decide) rfl)
  have hTn := Lib.hid (show ¬ w3.heap.size ∈ gs from fun c => by have := hglt.out _ c; omega)
  have HW4 := Lib.hid hW4
  clear hW4 hG hrows hgB hgl HS3 HR3 HB3 b3a
  go_wp2
  simp only [HW4.out]
  go_loopw [8] (fun i wr => WholeR W4 gs N i wr) (fun i _ => N - (intOf i).toNat)
  case atStart => exact ⟨0, Nat.zero_le _, rfl, by first | exact hrows4.out | (rw [HW4.out]; exact hrows4.out), by first | exact Kept.refl _ _ | (rw [HW4.out]; exact Kept.refl _ _)⟩
  case round =>
    obtain ⟨k, hk, rfl, hrw, hkp⟩ := hrel
    obtain ⟨W9, rfl⟩ : ∃ W9, W9 = wr := ⟨_, rfl⟩
    have g1 : (0 : Int) ≤ (k : Int) := by omega
    have HKP := Lib.hid hkp
    have HRW := Lib.hid hrw
    have bT9 := Lib.hid (blk_kept bT.out hkp hTn.out)
    have c1 : W9.cell? ⟨w3.heap.size, 1, none⟩ = some (.slice (some ⟨G, 0, none⟩) N N) := by rw [blk_cell bT9.out]; rfl
    by_cases hlt : k < N
    · have g2 : (k : Int) < (N : Int) := by omega
      have hkg : k < gs.length := by rw [HGL.out]; exact hlt
      have bG9 := blk_kept HG4.out hkp hGn.out
      have cg : W9.cell? ⟨G, k, none⟩ = some (.slice (some ⟨gs[k], 0, none⟩) 3 3) := by
        rw [blk_cell bG9]
        simp [hkg, rowV]
      have hgl9 : G < W9.heap.size := blk_lt bG9
      have hmem := Lib.hid (List.getElem_mem hkg)
      obtain ⟨xs, hx12, hxB⟩ := hrw gs[k] hmem.out
      clear hkp hrw bG9
      generalize gs[k] = g at cg hmem hxB
      have HXB := Lib.hid hxB
      have HX12 := Lib.hid hx12
      have hglt9 : g < W9.heap.size := blk_lt hxB
      clear hxB hx12
      go_wp2_with (refine term_abs (.tmp 56) (.tmp 55) ⟨rfl, rfl⟩ g 0 #[.int .i64 0, .string (bs []), .string (bs []), .string (bs [])] (by kernel_rfl) (by kernel_rfl) (by kernel_rfl) (by kernel_rfl) _ _ HXB.out rfl (by rw [HX12.out]; decide) ?_; intro w5 hB5 hG5)
      exact ⟨⟨k + 1, by omega, by go_num, HRW.out.set (by simp [HX12.out]) hB5.out hG5.out, HKP.out.then (Kept.of_grown (F := fun j => j ∈ gs) hG5.out (fun z hz => by injection hz with hz; rw [← hz]; exact hmem.out)) (fun i _ h => h)⟩, by simp [intOf]; omega⟩
    · have g2 : ¬ ((k : Int) < (N : Int)) := by omega
      obtain rfl : k = N := by omega
      have HS9 := Lib.hid (sto_kept HS4.out hkp (fun k hk hm => by have := hfoot.out k hk; have := HGB.out k hm; omega))
      have HR9 := Lib.hid (reads_kept HR4.out hkp (fun k hk hm => by have := hvblk.out k hk; have := HGB.out k hm; omega))
      have hwz := Lib.hid (show w.heap.size ≤ w2.heap.size ∧ w2.heap.size ≤ W4.heap.size from ⟨by have := (HS4.out).low; have := hfoot.out b (.inl rfl); omega, by have := blk_lt bT.out; have := h23.out; omega⟩)
      have HB9 := Lib.hid (HB4.out.trans (hkp.below HB4.out.size (fun i hi => by have := HGB.out i hi; have := hwz.out; omega)))
      clear hrw hkp HKP HRW HS4 HR4 HB4 bT HG4 hrows4
      go_wp2_with fail
      refine (all_calls _ b v0 v1 v2 R l1 l2 _ HS9.out).mono ?_
      rintro e w5 ⟨va2, rfl, hown, hb5⟩
      clear c1
      obtain ⟨xa, xc, rfl, g5, hg5, hpos⟩ := own_whole hown HN.out
      have hf9 := Lib.hid (show (∀ k, Foot b v0 v1 v2 k → k < W9.heap.size) ∧ (∀ z, (Value.slice ra R.length rc).ownBlock = some z → z < W9.heap.size) from ⟨fun k hk => (sto_foot HS9.out hk).2, fun z hz => reads_block HR9.out hz⟩)
      have HS5 := Lib.hid (sto_on HS9.out hb5 (Nat.le_refl _))
      have HR5 := Lib.hid (reads_on HR9.out hb5 (Nat.le_refl _))
      have HB5 := Lib.hid (first_below HB9.out hb5)
      have HPOS := Lib.hid hpos
      have hw9 := Lib.hid (HB9.out.size)
      clear hown hb5 HS9 HR9 HB9 hpos
      go_wp2
      go_loopw [10] (fun i wr => WholeR2 w5 g5 k i wr) (fun i _ => k - (intOf i).toNat)
      case atStart => exact ⟨0, Nat.zero_le _, rfl, fun h0 => (HPOS.out h0).2.2, Kept.refl _ _⟩
      case round =>
        obtain ⟨j, hj, rfl, hxs, hkp⟩ := hrel
        have g3 : (0 : Int) ≤ (j : Int) := by omega
        have HKP := Lib.hid hkp
        have HXS := Lib.hid hxs
        clear hkp hxs
        by_cases hjk : j < k
        · have g4 : (j : Int) < (k : Int) := by omega
          obtain ⟨rfl, hxc, _⟩ := HPOS.out (by omega)
          obtain ⟨xs, hxl, hxB⟩ := HXS.out (by omega)
          have HXL := Lib.hid hxl
          have HXB := Lib.hid hxB
          have hglt : g5 < wr.heap.size := blk_lt hxB
          clear hxl hxB
          go_wp2_with (refine trip_abs (.tmp 68) (.tmp 67) ⟨rfl, rfl⟩ g5 (j * 12) #[.int .i64 0, .string (bs []), .string (bs []), .string (bs []), .int .i64 0, .string (bs []), .string (bs []), .string (bs []), .int .i64 0, .string (bs []), .string (bs []), .string (bs [])] (by kernel_rfl) (by kernel_rfl) (by kernel_rfl) (by kernel_rfl) _ _ HXB.out rfl (by have := HXL.out; show j * 12 + 12 ≤ _; omega) ?_; intro w6 hB6 hG6)
          refine ⟨⟨j + 1, by omega, by go_num, fun _ => ⟨_, ?_, hB6.out⟩, HKP.out.then (Kept.of_grown (F := fun z => z = g5) hG6.out (fun z hz => by injection hz with hz; exact hz.symm)) (fun i _ h => h)⟩, by simp [intOf]; omega⟩
          have := HXL.out
          simp
          omega
        · have g4 : ¬ ((j : Int) < (k : Int)) := by omega
          have HS6 := Lib.hid (sto_kept HS5.out HKP.out (fun z hz he => by have := hf9.out.1 z hz; omega))
          have HR6 := Lib.hid (reads_kept HR5.out HKP.out (fun z hz he => by have := hf9.out.2 z hz; omega))
          have HB6 := Lib.hid (HB5.out.trans (HKP.out.below HB5.out.size (fun i hi => by have := hw9.out; omega)))
          clear HS5 HR5 HB5 HKP HXS HPOS
          go_wp2_with fail
          refine (all_calls _ b v0 v1 v2 R l1 l2 _ HS6.out).mono ?_
          rintro e w7 ⟨vb, rfl, hownb, hb7⟩
          have HA7 := Lib.hid hownb
          have HR7 := Lib.hid (reads_on HR6.out hb7 (Nat.le_refl _))
          have HB7 := Lib.hid (first_below HB6.out hb7)
          clear hownb hb7 HS6 HR6 HB6
          go_wp2_with fail
          refine (Same_calls R vb (.slice ra k rc) _ (by have := HN.out; omega) (reads_of HA7.out) (by have h := HR7.out; rw [HN.out] at h ⊢; exact h)).mono ?_
          rintro e w8 ⟨rfl, n, hw8⟩
          have HB8 := Lib.hid (show Below w.heap.size w w8 by rw [hw8]; exact drewN_below HB7.out n)
          clear hw8 HB7 HA7 HR7
          go_wp2_with fail
          refine (awake_calls _).mono ?_
          rintro e w9 ⟨rfl, hb9⟩
          have HB10 := Lib.hid (first_below HB8.out hb9)
          clear hb9
          go_wp2
          go_ret
          exact ⟨rfl, by first | exact HB10.out | exact HB10.out.drew⟩

end Go.Proofs.YtnojdchodmogbaaGreat
