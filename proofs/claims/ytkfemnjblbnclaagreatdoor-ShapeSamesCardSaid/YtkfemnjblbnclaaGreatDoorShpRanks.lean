/- Each column once: package shape's ranksOf. -/
import Derived.Test.YtkfemnjblbnclaaGreatDoorGTabs
import Derived.Test.YtkfemnjblbnclaaGreatDoorShpText
namespace Go.Proofs.YtkfemnjblbnclaaGreatDoor
open Go.RowKit Go.Maps

structure KeyA (w : World) (a : Option Addr) (n c : Nat) (K : List KeyL) : Prop where
  len : K.length = n
  cap : n ≤ c
  most : c ≤ maxLen
  cells : 0 < n → ∃ g o, a = some ⟨g, o, none⟩ ∧ g < w.heap.size ∧ ∀ j (h : j < K.length), w.cell? ⟨g, o + j * 2, none⟩ = some (.string (bs K[j].n)) ∧ w.cell? ⟨g, o + j * 2 + 1, none⟩ = some (.bool K[j].d)
theorem KeyA.on {w w' : World} {a : Option Addr} {n c : Nat} {K : List KeyL} (h : KeyA w a n c K) (hb : Below w.heap.size w w') : KeyA w' a n c K := ⟨h.len, h.cap, h.most, fun h0 => by
  obtain ⟨g, o, e, hg, hc⟩ := h.cells h0
  exact ⟨g, o, e, Nat.lt_of_lt_of_le hg hb.size, fun j hj => ⟨(hb.cell (p := ⟨g, _, none⟩) hg).trans (hc j hj).1, (hb.cell (p := ⟨g, _, none⟩) hg).trans (hc j hj).2⟩⟩⟩
def rankC (x : Nat × Bool) : List Value := [.int .i64 x.1, .bool x.2]
def cellsC (l : List (Nat × Bool)) : List Value := l.flatMap rankC
theorem cellsC_snoc (l : List (Nat × Bool)) (c : Nat) (d : Bool) : cellsC (l ++ [(c, d)]) = cellsC l ++ [.int .i64 c, .bool d] := by unfold cellsC; rw [List.flatMap_append]; rfl
theorem cellsC_length (l : List (Nat × Bool)) : (cellsC l).length = l.length * 2 := by
  induction l with
  | nil => rfl
  | cons t r ih => unfold cellsC at *; rw [List.flatMap_cons, List.length_append, ih, List.length_cons]; show 2 + _ = _; omega
theorem cellsC_at : ∀ (L : List (Nat × Bool)) (k : Nat) (hk : k < L.length), (cellsC L)[k * 2]? = some (.int .i64 L[k].1) ∧ (cellsC L)[k * 2 + 1]? = some (.bool L[k].2) := by
  intro L
  induction L with
  | nil => intro k hk; simp at hk
  | cons t r ih =>
    intro k hk
    have e : cellsC (t :: r) = rankC t ++ cellsC r := by unfold cellsC; exact List.flatMap_cons
    rw [e]
    cases k with
    | zero => exact ⟨rfl, rfl⟩
    | succ k =>
      obtain ⟨h1, h2⟩ := ih k (by simpa using hk)
      have e2 : (rankC t).length = 2 := rfl
      rw [List.getElem?_append_right (by omega), List.getElem?_append_right (by omega), e2, show (k + 1) * 2 - 2 = k * 2 by omega, show (k + 1) * 2 + 1 - 2 = k * 2 + 1 by omega]
      exact ⟨h1, h2⟩
theorem info_rank : (Tryz.prog.info? 110).map (fun i => (i.zero, i.size, i.bytes)) = some (some (.agg #[.int .i64 0, .bool false]), 2, 16) := by kernel_rfl
theorem own_mono {w : World} {B B' size n : Nat} {e : TypeId} {v : Value} {xs : List Value} (h : w.ownsRow B e size v n xs) (hb : B' ≤ B) : w.ownsRow B' e size v n xs := ⟨h.1, h.2.imp id (fun ⟨g, cap, cur, e, h1, r⟩ => ⟨g, cap, cur, e, Nat.le_trans hb h1, r⟩)⟩
theorem map_size {w : World} {b s : Nat} {f g : List UInt8 → Option Int} (h : MapS w b s f) (hfg : ∀ x, f x = g x) : MapS w b s g := h.ext (fun x _ => hfg x)

/- what the rounds keep -/
structure RankR (w : World) (b : Nat) (f : List UInt8 → Option Int) (l : List (Nat × Bool)) (v : Value) (wr : World) : Prop where
  left : ∃ s, MapS wr b s f
  own : wr.ownsRow (b + 1) 110 2 v l.length (cellsC l)
  below : Below w.heap.size w wr
  size : b + 1 ≤ wr.heap.size

set_option maxRecDepth 100000 in
set_option maxHeartbeats 8000000 in
theorem ranks_calls (V : List (List UInt8)) (K : List KeyL) (hV : ∀ x ∈ V, okS x) (hK : ∀ x ∈ K, okS x.n) (hn : V.Nodup) (hs : V.length ≤ 1000) (a : Option Addr) (n c : Nat) (ka : Option Addr) (m kc : Nat) (w : World) (h : TxtA w a n c V) (hk : KeyA w ka m kc K) :
    Calls Tryz.prog 49 #[.slice a n c, .slice ka m kc] w fun e w' => ∃ v, e = .returned v ∧ w'.ownsRow w.heap.size 110 2 v (onceC (rankP V K)).length (cellsC (onceC (rankP V K))) ∧ Below w.heap.size w w' := by
  obtain ⟨i0, hi, hz0, hz1, hz2⟩ := info_parts info_rank
  have HCO := Lib.hid (scols_calls V hV a n c w h)
  have HLN := Lib.hid (fun x => left_nil hn x)
  have HV := Lib.hid h
  have HK := Lib.hid hk
  have HOV := Lib.hid hV
  have HOK := Lib.hid hK
  have HVL := Lib.hid h.len
  have HKL := Lib.hid hk.len
  have HND := Lib.hid hn
  have hcp := h.cap
  have hms := h.most
  have hcp2 := hk.cap
  have hms2 := hk.most
  have hn1 : n ≤ 1000 := by rw [← h.len]; exact hs
  unfold maxLen at hms hms2
  obtain ⟨b, hb⟩ : ∃ b, w.heap.size = b := ⟨_, rfl⟩
  have HBE := Lib.hid hb
  clear h hk hV hK hn hs hb
  go_enter Tryz.func49, Tryz.ntmps49
  go_wp2_with fail
  refine HCO.out.mono ?_
  rintro e w1 ⟨b', rfl, hb', hm1, hb1⟩
  obtain rfl : b' = b := hb'.trans HBE.out
  have HS1 := Lib.hid (show RankR w b' (leftF V (keyC V K 0)) (keyC V K 0) (.slice none 0 0) w1 from ⟨⟨_, map_size hm1 (fun x => HLN.out x)⟩, World.ownsRow_nil _ _ _ _, hb1, hm1.lt⟩)
  clear hm1 hb1 hb' HCO
  go_wp2
  go_loopg [6, 9, 10, 19] m (fun g v _ _ i wr => ∃ k : Nat, i = .int .i64 k ∧ k + g = m ∧ Hid (RankR w b' (leftF V (keyC V K k)) (keyC V K k) v wr))
  case atStart => exact ⟨0, rfl, by omega, HS1⟩
  case round =>
    obtain ⟨W1, rfl⟩ : ∃ W1, W1 = wr := ⟨_, rfl⟩
    obtain ⟨k, rfl, hkg, HRD⟩ := hrel
    by_cases hkm : k < m
    · obtain ⟨gg, rfl⟩ : ∃ gg, gk = gg + 1 := ⟨gk - 1, by omega⟩
      have hkK : k < K.length := by rw [HKL.out]; exact hkm
      obtain ⟨g, o, ha, hgw, hcells⟩ := HK.out.cells (by omega)
      subst ha
      obtain ⟨hc0, hc1⟩ := hcells k hkK
      have HBW := Lib.hid HRD.out.below
      have hgW : g < W1.heap.size := Nat.lt_of_lt_of_le hgw HBW.out.size
      have c0 := keptC hc0 HBW.out hgw
      have c1 := keptC hc1 HBW.out hgw
      have hok := Lib.hid (HOK.out _ (List.getElem_mem hkK))
      have HN := Lib.hid (key_none (V := V) hkK)
      have HY := Lib.hid (fun i => key_some (V := V) (i := i) hkK)
      have hkl := key_len V K k
      rw [HVL.out] at hkl
      obtain ⟨s, hm1⟩ := HRD.out.left
      have hown := HRD.out.own
      generalize K[k] = y at c0 c1 hok HN HY
      obtain ⟨nm, d⟩ := y
      dsimp only at c0 c1 hok HN HY
      have HB := Lib.hid (box_below W1 (.cells #[.string (bs nm), .bool d] 92))
      have HMA := Lib.hid (hm1.on HB.out)
      have HOA := Lib.hid (hown.alloc (.cells #[.string (bs nm), .bool d] 92))
      have HSZ := Lib.hid HRD.out.size
      have HBX := Lib.hid (blk_new W1 92 #[.string (bs nm), .bool d])
      clear hcells hc0 hc1 hm1 hown
      have k0 : (0 : Int) ≤ (k : Int) := by omega
      have k1 : (k : Int) < (m : Int) := by omega
      cases hq : leftF V (keyC V K k) nm with
      | none =>
        have HQ := Lib.hid hq
        go_wp2_with (first
          | (at_lookup; refine wpList_look_g rfl _ _ 87 rfl keyS Tryz.underlying87 rfl HMA.out nm hok.out rfl ?_; rw [HQ.out]; simp only [Option.getD_none, Option.isSome_none]))
        have HR5 := Lib.hid (show RankR w b' (leftF V (keyC V K (k + 1))) (keyC V K (k + 1)) u6 (W1.alloc (.cells #[.string (bs nm), .bool d] 92)) from by
          rw [HN.out HQ.out]
          exact ⟨⟨s, HMA.out⟩, HOA.out, fb2 HBW.out HB.out (Nat.le_refl _), Nat.le_trans HSZ.out (by simp)⟩)
        go_roundg gg
        case measure => omega
        case rel => exact ⟨k + 1, by go_num, by omega, HR5⟩
      | some u =>
        obtain ⟨i, rfl, hp, hin, hiV⟩ := left_some hq
        rw [HVL.out] at hiV
        have HQ := Lib.hid hq
        have HY2 := Lib.hid (HY.out i hp hin)
        have HLX := Lib.hid (fun y => left_next (l := keyC V K k) (d := d) hp y)
        obtain ⟨l0, hl0⟩ : ∃ l0, (keyC V K k).length = l0 := ⟨_, rfl⟩
        rw [hl0] at HOA hkl
        have HL0 := Lib.hid hl0
        have HA1L := Lib.hid (show l0 + 1 ≤ maxLen by unfold maxLen; omega)
        have HA3L := Lib.hid (show (l0 + 1) * 16 ≤ 140737488355328 by omega)
        have HOB : Hid (∀ e, Value.ownBlock u6 = some e → b' + 1 ≤ e ∧ e < W1.heap.size) := Lib.hid (fun e he => HRD.out.own.lt e he)
        clear hq hp hin HY HN hl0
        go_wp2_with (first
          | (at_lookup; refine wpList_look_g rfl _ _ 87 rfl keyS Tryz.underlying87 rfl HMA.out nm hok.out rfl ?_; rw [HQ.out]; simp only [Option.getD_some, Option.isSome_some])
          | (at_builtin; (refine wpList_append_own_at _ rfl (.tmp 31) (.tmp 36) 77 rfl (b' + 1) 110 i0 (.agg #[.int .i64 0, .bool false]) 2 16 Tryz.underlying77 hi hz0 hz1 hz2 rfl (by decide) u6 _ _ rfl (HOA.out.alloc _) ⟨W1.heap.size + 1, 0, none⟩ 1 1 [.int .i64 i, .bool d] rfl rfl (news_gen _ _ _ (by simp)) (by intro u hu; simp at hu; rcases hu with rfl | rfl <;> rfl) HA1L.out HA3L.out (Nat.le_trans HSZ.out (by simp; omega)) ?_; intro v4 w4 ho4 hg4 _ _; have hbx : Blk w4 W1.heap.size 92 #[.string (bs nm), .bool d] := (hg4.block W1.heap.size (by simp; omega) (fun e => by have := HOB.out _ e.symm; omega)).trans (blk_alloc HBX.out _); have c9 : w4.cell? ⟨W1.heap.size, 0, none⟩ = some (.string (bs nm)) := (blk_cell hbx 0).trans rfl; have HO4 := Lib.hid ho4; have HM4 := Lib.hid ((HMA.out.on (box_below _ (.cells #[.int .i64 i, .bool d] 110))).kept hg4 (fun e => by have := HOB.out _ e.symm; omega)); have HG4 := Lib.hid (World.grownBy.andThen (World.grownBy_alloc (W1.alloc (.cells #[.string (bs nm), .bool d] 92)) (.cells #[.int .i64 i, .bool d] 110) (Value.ownBlock u6)) hg4 (fun j hj => .inr hj)); clear ho4 hg4 hbx))
          | (at_delete; refine wpList_del_g rfl _ _ 87 rfl keyS Tryz.underlying87 rfl HM4.out nm hok.out rfl ?_; intro w5 h5 g5; have HM5 := Lib.hid h5; have HG5 := Lib.hid g5; clear h5 g5))
        have HR5 := Lib.hid (show RankR w b' (leftF V (keyC V K (k + 1))) (keyC V K (k + 1)) v4 w5 from by
          rw [HY2.out]
          have hbe := HBE.out
          have hob := HOB.out
          refine ⟨⟨_, map_size HM5.out (fun y => HLX.out y)⟩, ?_, ?_, ?_⟩
          · rw [List.length_append, HL0.out, cellsC_snoc]
            refine HO4.out.kept HG5.out (.inr (fun e => ?_))
            have := own_from HO4.out _ e
            omega
          · have h4 := (fb2 HBW.out HB.out (Nat.le_refl _)).grown HG4.out (Nat.le_trans HBW.out.size HB.out.size) (fun j hj => by have := hob _ hj; omega)
            exact h4.grown HG5.out h4.size (fun j hj => by injection hj with hj; omega)
          · have h1 := HB.out.size
            exact Nat.le_trans HSZ.out (Nat.le_trans h1 (Nat.le_trans HG4.out.size HG5.out.size)))
        go_roundg gg
        case measure => omega
        case rel => exact ⟨k + 1, by go_num, by omega, HR5⟩
    · have hkm2 : k = m := by omega
      have k1 : ¬ (k : Int) < (m : Int) := by omega
      subst hkm2
      have HS2 := Lib.hid (show RankR w b' (leftF V (keyC V K K.length)) (restC V K 0) u6 W1 from by
        have := HRD.out
        rw [rest_zero, HKL.out]
        exact this)
      clear HRD HKL
      go_wp2
      go_loopg [6, 11, 12, 13, 14, 44] n (fun g v _ _ _ _ i wr => ∃ j : Nat, i = .int .i64 j ∧ j + g = n ∧ Hid (RankR w b' (leftF V (keyC V K K.length)) (restC V K j) v wr))
      case atStart => exact ⟨0, rfl, by omega, HS2⟩
      case round =>
        obtain ⟨W2, rfl⟩ : ∃ W2, W2 = wr := ⟨_, rfl⟩
        obtain ⟨j, rfl, hjg, HRD⟩ := hrel
        by_cases hjn : j < n
        · obtain ⟨gg, rfl⟩ : ∃ gg, gk = gg + 1 := ⟨gk - 1, by omega⟩
          have hjV : j < V.length := by rw [HVL.out]; exact hjn
          obtain ⟨g, o, ha, hgw, hcells⟩ := HV.out.cells (by omega)
          subst ha
          have HBW := Lib.hid HRD.out.below
          have hgW : g < W2.heap.size := Nat.lt_of_lt_of_le hgw HBW.out.size
          have c0 := keptC (hcells j hjV) HBW.out hgw
          have hok := Lib.hid (HOV.out _ (List.getElem_mem hjV))
          have HNX := Lib.hid (rest_next HND.out (K := K) hjV)
          have hkl := rest_len V K j
          rw [HVL.out] at hkl
          obtain ⟨s, hm1⟩ := HRD.out.left
          have HMA := Lib.hid hm1
          have hown := HRD.out.own
          have HSZ := Lib.hid HRD.out.size
          generalize V[j] = nm at c0 hok HNX
          obtain ⟨l0, hl0⟩ : ∃ l0, (restC V K j).length = l0 := ⟨_, rfl⟩
          rw [hl0] at hown hkl
          have HL0 := Lib.hid hl0
          have HOA := Lib.hid hown
          clear hcells hm1 hown hl0
          have k0 : (0 : Int) ≤ (j : Int) := by omega
          have k1 : (j : Int) < (n : Int) := by omega
          cases hq : leftF V (keyC V K K.length) nm with
          | none =>
            have HQ := Lib.hid hq
            have HN2 := Lib.hid (show restC V K (j + 1) = restC V K j from HNX.out.trans (if_neg (by rw [hq]; simp)))
            go_wp2_with (first
              | (at_lookup; refine wpList_look_g rfl _ _ 87 rfl keyS Tryz.underlying87 rfl HMA.out nm hok.out rfl ?_; rw [HQ.out]; simp only [Option.getD_none, Option.isSome_none]))
            have HR5 := Lib.hid (show RankR w b' (leftF V (keyC V K K.length)) (restC V K (j + 1)) u6 W2 from by
              rw [HN2.out]
              exact HRD.out)
            go_roundg gg
            case measure => omega
            case rel => exact ⟨j + 1, by go_num, by omega, HR5⟩
          | some u =>
            have HQ := Lib.hid hq
            have HN2 := Lib.hid (show restC V K (j + 1) = restC V K j ++ [(j, false)] from HNX.out.trans (if_pos (by rw [hq]; simp)))
            have HA1L := Lib.hid (show l0 + 1 ≤ maxLen by unfold maxLen; omega)
            have HA3L := Lib.hid (show (l0 + 1) * 16 ≤ 140737488355328 by omega)
            have HOB : Hid (∀ e, Value.ownBlock u6 = some e → b' + 1 ≤ e ∧ e < W2.heap.size) := Lib.hid (fun e he => HRD.out.own.lt e he)
            go_wp2_with (first
              | (at_lookup; refine wpList_look_g rfl _ _ 87 rfl keyS Tryz.underlying87 rfl HMA.out nm hok.out rfl ?_; rw [HQ.out]; simp only [Option.getD_some, Option.isSome_some])
              | (at_builtin; (refine wpList_append_own_at _ rfl (.tmp 56) (.tmp 59) 77 rfl (b' + 1) 110 i0 (.agg #[.int .i64 0, .bool false]) 2 16 Tryz.underlying77 hi hz0 hz1 hz2 rfl (by decide) u6 _ _ rfl (HOA.out.alloc _) ⟨W2.heap.size, 0, none⟩ 1 1 [.int .i64 j, .bool false] rfl rfl (news_gen _ _ _ (by simp)) (by intro u hu; simp at hu; rcases hu with rfl | rfl <;> rfl) HA1L.out HA3L.out (Nat.le_trans HSZ.out (by simp)) ?_; intro v4 w4 ho4 hg4 _ _; have HO4 := Lib.hid ho4; have HG4 := Lib.hid (World.grownBy.andThen (World.grownBy_alloc W2 (.cells #[.int .i64 j, .bool false] 110) (Value.ownBlock u6)) hg4 (fun j hj => .inr hj)); clear ho4 hg4)))
            have HR5 := Lib.hid (show RankR w b' (leftF V (keyC V K K.length)) (restC V K (j + 1)) v4 w4 from by
              rw [HN2.out]
              have hbe := HBE.out
              have hob := HOB.out
              refine ⟨⟨s, HMA.out.kept HG4.out (fun e => by have := hob _ e.symm; omega)⟩, ?_, ?_, ?_⟩
              · rw [List.length_append, HL0.out, cellsC_snoc]
                exact HO4.out
              · exact HBW.out.grown HG4.out HBW.out.size (fun j hj => by have := hob _ hj; omega)
              · exact Nat.le_trans HSZ.out HG4.out.size)
            go_roundg gg
            case measure => omega
            case rel => exact ⟨j + 1, by go_num, by omega, HR5⟩
        · have k1 : ¬ (j : Int) < (n : Int) := by omega
          have hjn2 : j = V.length := by rw [HVL.out]; omega
          have HR5 := Lib.hid (show RankR w b' (leftF V (keyC V K K.length)) (onceC (rankP V K)) u6 W2 from by
            rw [← rest_all, ← hjn2]
            exact HRD.out)
          clear HRD hjn2
          go_wp2
          go_ret
          have hbe := HBE.out
          exact ⟨u6, rfl, own_mono HR5.out.own (by omega), HR5.out.below⟩

end Go.Proofs.YtkfemnjblbnclaaGreatDoor
