/- A level's signs, and behind each of them a chain: the reader's gather, where variables and signs follow one another. A chain, a disjunction, and Parse, where variables and signs follow one another. -/
import Derived.Test.YtgkpdcjkobieiaaDoorFormReads
import Derived.Test.YtgkpdcjkobieiaaDoorFormPlains
namespace Go.Proofs.YtgkpdcjkobieiaaDoor
open Go.RowKit

def ChainC (A X : Nat) (v : Value) (L : List TokL) (f : Nat) : Prop :=
  ∀ (n a : Nat) (P : List PartL) (q : StL) (pv : Value) (w : World), n ≤ 5 → chainM L f n (a, P) = some q → Rd A X v L a P pv w →
    Calls Tryd.prog 25 #[.pointer (some ⟨X, 0, none⟩), .int .i64 n] w fun e w' => e = .returned (.bool true) ∧ RdT A X v L pv q w w'
/- what a round keeps -/
def GatR (A X : Nat) (v : Value) (L : List TokL) (pv : Value) (i : Nat) (q : StL) (W0 : World) (g : Nat) (wr : World) : Prop :=
  ∃ (a : Nat) (P : List PartL) (p : Value), gatherM L g i (a, P) = some q ∧ Rd A X v L a P p wr ∧ Below A W0 wr ∧ Step X pv p W0 wr

set_option maxRecDepth 100000 in
set_option maxHeartbeats 1000000 in
theorem gather_calls (A X : Nat) (v : Value) (L : List TokL) (hL : L.length ≤ 100000) (F : Nat) (IH : ∀ g, g < F → ChainC A X v L g) (i a : Nat) (P : List PartL) (q : StL) (pv : Value) (w : World) (hi : i < 5) (hq : gatherM L F i (a, P) = some q) (h : Rd A X v L a P pv w) :
    Calls Tryd.prog 37 #[.pointer (some ⟨X, 0, none⟩), .agg #[.int .i64 (lev i).1, .int .i64 (lev i).2.1, .bool (lev i).2.2], .int .i64 ((i : Int) + 1)] w fun e w' => e = .returned (.bool true) ∧ RdT A X v L pv q w w' := by
  have hlm := lev_most hi
  have HMORE : Hid (∀ g a P K, gatherM L (g + 1) i (a, P) = some q → signK L a (lev i).1 (lev i).2.1 = K → ¬ K = 0 → ∃ a' P', chainM L g (i + 1) (a + 1, P) = some (a', P') ∧ P'.length + a < a' + P.length ∧ if (lev i).2.2 = true then q = (a', P' ++ [signPart K]) else gatherM L g i (a', P' ++ [signPart K]) = some q) := Lib.hid fun g a P K h1 h2 h3 => gather_more h1 h2 h3
  have HEND : Hid (∀ g a P, gatherM L (g + 1) i (a, P) = some q → signK L a (lev i).1 (lev i).2.1 = 0 → q = (a, P)) := Lib.hid fun g a P h1 h2 => gather_end h1 h2
  have HTAKE : Hid (∀ W a P p K b, Rd A X v L a P p W → signK L a (lev i).1 (lev i).2.1 = K → (if K = 0 then a else a + 1) = b → Calls Tryd.prog 43 #[.pointer (some ⟨X, 0, none⟩), .int .i64 (lev i).1, .int .i64 (lev i).2.1] W fun e w' => e = .returned (.int .i64 K) ∧ RdT A X v L p (b, P) W w') := Lib.hid fun W a P p K b hW hK hb => takeSign_calls A X v p L a P _ _ W hW hL hlm.1 hlm.2 K b hK hb
  obtain ⟨s, hs⟩ : ∃ s, signK L = s := ⟨_, rfl⟩
  obtain ⟨lf, hlf⟩ : ∃ lf, (lev i).1 = lf := ⟨_, rfl⟩
  obtain ⟨lt, hlt⟩ : ∃ lt, (lev i).2.1 = lt := ⟨_, rfl⟩
  obtain ⟨lo, hlo⟩ : ∃ lo, (lev i).2.2 = lo := ⟨_, rfl⟩
  rw [hlf, hlt] at HTAKE HEND
  rw [hlf, hlt, hlo] at HMORE
  rw [hlf, hlt, hlo]
  have hA := h.size
  obtain ⟨n1, n2⟩ := rd_new h (Nat.le_refl _)
  have H0 := Lib.hid h
  have HQ := Lib.hid hq
  have HIH := Lib.hid IH
  clear hs hlf hlt hlo hlm h hq IH
  go_enter Tryd.func37, Tryd.ntmps37
  go_wp2
  have HB0 := Lib.hid (blk_new w 64 #[.int .i64 lf, .int .i64 lt, .bool lo])
  have HW0 := Lib.hid (box_below w (.cells #[.int .i64 lf, .int .i64 lt, .bool lo] 64))
  have HR0 := Lib.hid (H0.out.alloc (.cells #[.int .i64 lf, .int .i64 lt, .bool lo] 64))
  go_loopg [] F (fun g wr => Hid (GatR A X v L pv i q (w.alloc (.cells #[.int .i64 lf, .int .i64 lt, .bool lo] 64)) g wr) ∧ g ≤ F)
  case atStart => exact ⟨Lib.hid ⟨a, P, pv, HQ.out, HR0.out, Below.refl _ _, step_on (Below.refl _ _)⟩, Nat.le_refl _⟩
  case round =>
    obtain ⟨W1, rfl⟩ : ∃ W1, W1 = wr := ⟨_, rfl⟩
    obtain ⟨hrel, hgF⟩ := hrel
    obtain ⟨a, P, p, hg, hr, hb, hs⟩ := hrel.out
    have HBK := Lib.hid (step_blk hs HB0.out n1 n2)
    have HPRE := Lib.hid (fun (r : StL) (w' : World) (h : RdT A X v L p r W1 w') => rdt_trans (HW0.out.mono hA) (step_on HW0.out) (rdt_trans hb hs h))
    have q0 : W1.cell? ⟨w.heap.size, 0, none⟩ = some (.int .i64 lf) := by rw [blk_cell HBK.out]; rfl
    have q1 : W1.cell? ⟨w.heap.size, 1, none⟩ = some (.int .i64 lt) := by rw [blk_cell HBK.out]; rfl
    obtain ⟨g, rfl⟩ : ∃ g, gk = g + 1 := by
      cases gk with
      | zero => cases hg
      | succ g => exact ⟨g, rfl⟩
    have HSB := Lib.hid hs
    have HBB := Lib.hid hb
    obtain ⟨n3, n4⟩ : w.heap.size ≠ X ∧ p.ownBlock ≠ some w.heap.size := ⟨n1, fun c => by
      have hs := HSB.out
      rcases hs.own with e | e
      · exact n2 (e ▸ c)
      · have := e _ c; simp at this; omega⟩
    by_cases hK : signK L a lf lt = 0
    · have HE := Lib.hid (HEND.out g a P hg hK)
      have HT := Lib.hid (HTAKE.out W1 a P p 0 a hr hK rfl)
      clear hs hb hr hg hK hrel n3 n4
      go_wp2_with fail
      refine HT.out.mono ?_
      rintro e w1 ⟨rfl, hr1⟩
      have HR := Lib.hid (HPRE.out _ _ hr1)
      clear hr1
      go_wp2
      go_ret
      exact ⟨rfl, by rw [HE.out]; exact HR.out⟩
    · obtain ⟨K, hKe⟩ : ∃ K, signK L a lf lt = K := ⟨_, rfl⟩
      rw [hKe] at hK
      obtain ⟨a', P', hch, hlt', hcont⟩ := HMORE.out g a P K hg hKe hK
      have HT := Lib.hid (HTAKE.out W1 a P p K (a + 1) hr hKe (if_neg hK))
      have HC := Lib.hid (fun W p1 hW => HIH.out g (by omega) (i + 1) (a + 1) P (a', P') p1 W (by omega) hch hW)
      have hlt2 : P'.length < a' := by have := hr.most.1; omega
      have HA : Hid (∀ W p2, Rd A X v L a' P' p2 W → Calls Tryd.prog 45 #[.pointer (some ⟨X, 0, none⟩), .agg #[.int .i64 K, .int .i64 0, .string ⟨#[]⟩, .string ⟨#[]⟩, .string ⟨#[]⟩, .string ⟨#[]⟩, .int .i64 0]] W fun e w' => e = .returned (.tuple #[]) ∧ RdT A X v L p2 (a', P' ++ [signPart K]) W w') := Lib.hid fun W p2 hW => add_calls A X v p2 L a' P' (signPart K) W hW hL hlt2
      have gz : ((K : Int) == 0) = false := beq_eq_false_iff_ne.2 (by omega)
      have HCT := Lib.hid hcont
      have i1 : ((i : Int) + 1) = ((i + 1 : Nat) : Int) := by omega
      rw [← i1] at HC
      clear hs hb hr hg hK hrel hKe hch hcont hlt' hlt2 i1
      go_wp2_with fail
      refine HT.out.mono ?_
      rintro e w1 ⟨rfl, p1, h1, hb1, hs1⟩
      have H1 := Lib.hid h1
      have HB1 := Lib.hid hb1
      have HS1 := Lib.hid hs1
      clear h1 hb1 hs1
      go_wp2_with fail
      refine (HC.out _ p1 H1.out).mono ?_
      rintro e w2 ⟨rfl, p2, h2, hb2, hs2⟩
      have H2 := Lib.hid h2
      have HB2 := Lib.hid (HB1.out.trans hb2)
      have HS2 := Lib.hid (HS1.out.trans hs2)
      clear h2 hb2 hs2
      go_wp2_with fail
      refine (HA.out _ p2 H2.out).mono ?_
      rintro e w3 ⟨rfl, p3, h3, hb3, hs3⟩
      have H3 := Lib.hid h3
      have HB3 := Lib.hid (HB2.out.trans hb3)
      have HS3 := Lib.hid (HS2.out.trans hs3)
      have hbk3 := step_blk HS3.out HBK.out n3 n4
      have r2 : w3.cell? ⟨w.heap.size, 2, none⟩ = some (.bool lo) := by rw [blk_cell hbk3]; rfl
      clear h3 hb3 hs3 hbk3 n3 n4 q0 q1
      cases lo with
      | true =>
        have HE := Lib.hid ((if_pos rfl).mp HCT.out)
        have HR := Lib.hid (HPRE.out _ _ ⟨p3, H3.out, HB3.out, HS3.out⟩)
        go_wp2
        go_ret
        exact ⟨rfl, by rw [HE.out]; exact HR.out⟩
      | false =>
        have HG := Lib.hid (show gatherM L g i (a', P' ++ [signPart K]) = some q from by have := HCT.out; simpa using this)
        go_wp2
        go_roundg g
        case measure => omega
        case rel => exact ⟨Lib.hid ⟨a', P' ++ [signPart K], p3, HG.out, H3.out, HBB.out.trans HB3.out, HSB.out.trans HS3.out⟩, by omega⟩

end Go.Proofs.YtgkpdcjkobieiaaDoor

namespace Go.Proofs.YtgkpdcjkobieiaaDoor
open Go.RowKit

/- what a round keeps: k levels are left -/
def ChR (A X : Nat) (v : Value) (L : List TokL) (f n : Nat) (pv : Value) (q : StL) (W0 : World) (g : Nat) (iv : Value) (wr : World) : Prop :=
  ∃ (a : Nat) (P : List PartL) (p : Value), iv = .int .i64 ((n + g : Nat) - 1 : Int) ∧ levsM (gatherM L f) n g (a, P) = some q ∧ Rd A X v L a P p wr ∧ Below A W0 wr ∧ Step X pv p W0 wr

set_option maxRecDepth 100000 in
set_option maxHeartbeats 1000000 in
theorem chain_of (A X : Nat) (v : Value) (L : List TokL) (hL : L.length ≤ 100000) (hx : ∀ t ∈ L, t.x.length ≤ 1000) (F : Nat) (IH : ∀ g, g < F → ChainC A X v L g) : ChainC A X v L F := by
  intro n a P q pv w hn hq h
  simp only [chainM, chainOf, Option.bind_eq_some_iff] at hq
  obtain ⟨⟨a1, P1⟩, hq1, hq2⟩ := hq
  have HS := Lib.hid (signed_calls A X v pv L a P (a1, P1) w h hL hx hq1)
  have HG := Lib.hid (fun i a P q p W hi hq hr => gather_calls A X v L hL F IH i a P q p W hi hq hr)
  have HQ := Lib.hid hq2
  have HF : Hid (∀ W, Rd A X v L a P pv W → Good A W) := Lib.hid fun W hW => hW.good
  clear hq1 hq2 h hx IH
  go_enter Tryd.func25, Tryd.ntmps25
  go_wp2_with fail
  refine HS.out.mono ?_
  rintro e w1 ⟨rfl, p1, h1, hb1, hs1⟩
  have H1 := Lib.hid h1
  have HB1 := Lib.hid hb1
  have HS1 := Lib.hid hs1
  clear h1 hb1 hs1
  go_wp2
  go_loopg [5] (5 - n) (fun g iv wr => Hid (ChR A X v L F n p1 q w1 g iv wr) ∧ g ≤ 5 - n)
  case atStart => exact ⟨Lib.hid ⟨a1, P1, p1, by congr 1; omega, HQ.out, H1.out, Below.refl _ _, step_on (Below.refl _ _)⟩, Nat.le_refl _⟩
  case round =>
    obtain ⟨W1, rfl⟩ : ∃ W1, W1 = wr := ⟨_, rfl⟩
    obtain ⟨hrel, hg5⟩ := hrel
    obtain ⟨a2, P2, p2, rfl, hlv, hr, hb, hs⟩ := hrel.out
    have H2 := Lib.hid hr
    have HB2 := Lib.hid hb
    have HS2 := Lib.hid hs
    cases gk with
    | zero =>
      have HE := Lib.hid (show (a2, P2) = q by simpa [levsM] using hlv)
      have g1 : ¬ ((n : Int) ≤ (n + 0 : Nat) - 1) := by omega
      clear hlv hr hb hs hrel
      have HR := Lib.hid (rdt_trans HB1.out HS1.out (show RdT A X v L p1 q w1 W1 from HE.out ▸ ⟨p2, H2.out, HB2.out, HS2.out⟩))
      go_wp2
      go_ret
      exact ⟨rfl, HR.out⟩
    | succ g =>
      simp only [levsM, Option.bind_eq_some_iff] at hlv
      obtain ⟨⟨a3, P3⟩, hga, hlv⟩ := hlv
      have hi : n + g < 5 := by omega
      have HLV := Lib.hid hlv
      have HC := Lib.hid (HG.out (n + g) a2 P2 (a3, P3) p2 W1 hi hga hr)
      have gd := hr.good
      have l0 := gd.lv0 (n + g) hi
      have l1 := gd.lv1 (n + g) hi
      have l2 := gd.lv2 (n + g) hi
      obtain ⟨lf, hlf⟩ : ∃ lf, (lev (n + g)).1 = lf := ⟨_, rfl⟩
      obtain ⟨lt, hlt⟩ : ∃ lt, (lev (n + g)).2.1 = lt := ⟨_, rfl⟩
      obtain ⟨lo, hlo⟩ : ∃ lo, (lev (n + g)).2.2 = lo := ⟨_, rfl⟩
      rw [hlf, hlt, hlo] at HC
      rw [hlf] at l0
      rw [hlt] at l1
      rw [hlo] at l2
      obtain ⟨m, hm⟩ : ∃ m, n + g = m := ⟨_, rfl⟩
      rw [hm] at l0 l1 l2 HC hi
      have HM := Lib.hid hm
      have e1 : ((n + (g + 1) : Nat) : Int) - 1 = (m : Int) := by omega
      rw [e1]
      have g1 : (n : Int) ≤ (m : Int) := by omega
      have g2 : (m : Int) < 5 := by omega
      have g0 : (0 : Int) ≤ (m : Int) := by omega
      clear hlv hr hb hs hrel hga gd hlf hlt hlo hm e1
      go_wp2_with fail
      refine HC.out.mono ?_
      rintro e w2 ⟨rfl, p3, h3, hb3, hs3⟩
      have H3 := Lib.hid h3
      have HB3 := Lib.hid (HB2.out.trans hb3)
      have HS3 := Lib.hid (HS2.out.trans hs3)
      clear h3 hb3 hs3
      go_wp2
      go_roundg g
      case measure => omega
      case rel => exact ⟨Lib.hid ⟨a3, P3, p3, by have := HM.out; go_num, HLV.out, H3.out, HB3.out, HS3.out⟩, by omega⟩

theorem chain_calls (A X : Nat) (v : Value) (L : List TokL) (hL : L.length ≤ 100000) (hx : ∀ t ∈ L, t.x.length ≤ 1000) : ∀ F g, g < F → ChainC A X v L g
  | 0, _, h => absurd h (Nat.not_lt_zero _)
  | F + 1, g, h => by
    rcases Nat.lt_or_ge g F with h1 | h1
    · exact chain_calls A X v L hL hx F g h1
    · obtain rfl : g = F := by omega
      exact chain_of A X v L hL hx g (chain_calls A X v L hL hx g)

set_option maxRecDepth 100000 in
set_option maxHeartbeats 400000 in
theorem disjunction_calls (A X : Nat) (v : Value) (L : List TokL) (hL : L.length ≤ 100000) (hx : ∀ t ∈ L, t.x.length ≤ 1000) (F a : Nat) (P : List PartL) (q : StL) (pv : Value) (w : World) (hq : chainM L F 0 (a, P) = some q) (h : Rd A X v L a P pv w) :
    Calls Tryd.prog 18 #[.pointer (some ⟨X, 0, none⟩)] w fun e w' => e = .returned (.bool true) ∧ RdT A X v L pv q w w' := by
  have HC : Hid (Calls Tryd.prog 25 #[.pointer (some ⟨X, 0, none⟩), .int .i64 0] w fun e w' => e = .returned (.bool true) ∧ RdT A X v L pv q w w') := Lib.hid (chain_calls A X v L hL hx (F + 1) F (by omega) 0 a P q pv w (by omega) hq h)
  clear h hq hx
  go_enter Tryd.func18, Tryd.ntmps18
  go_wp2_with fail
  refine HC.out.mono ?_
  rintro e w1 ⟨rfl, hr⟩
  go_wp2
  go_ret
  exact ⟨rfl, hr⟩

theorem rd_start {v : Value} {L : List TokL} {w : World} (ht : TokS w.heap.size v L w) (hg : Good w.heap.size w) :
    Rd w.heap.size w.heap.size v L 0 [] (.slice none 0 0) (w.alloc (.cells #[v, .int .i64 0, .slice none 0 0] 48)) :=
  ⟨blk_new _ _ _, World.ownsRow_nil _ _ _ _, Nat.le_refl _, ht.on (box_below _ _), hg.on (box_below _ _), ⟨Nat.le_refl _, Nat.zero_le _⟩⟩

/- what Parse leaves of words that a formula reads whole -/
def ParT (q : StL) (w : World) (e : Ending) (w' : World) : Prop :=
  ∃ pv, e = .returned (.tuple #[pv, .int .i64 q.1, .int .i64 0]) ∧ w'.ownsRow w.heap.size 41 7 pv q.2.length (partCells q.2) ∧ Below w.heap.size w w'

set_option maxRecDepth 100000 in
set_option maxHeartbeats 1000000 in
theorem Parse_calls (v : Value) (L : List TokL) (hL : L.length ≤ 200) (hx : ∀ t ∈ L, t.x.length ≤ 1000) (F : Nat) (q : StL) (w : World) (hq : chainM L F 0 (0, []) = some q) (ht : TokS w.heap.size v L w) (hg : Good w.heap.size w) :
    Calls Tryd.prog 11 #[v, .int .i64 0] w (ParT q w) := by
  have HT := Lib.hid ht
  have HG := Lib.hid hg
  obtain ⟨g, cap, rfl, hgl, hcap, _⟩ := ht.row
  obtain ⟨N, hN⟩ : ∃ N, L.length = N := ⟨_, rfl⟩
  have HN := Lib.hid hN
  have HD := Lib.hid (fun pv W hr => disjunction_calls w.heap.size w.heap.size (.slice (some ⟨g, 0, none⟩) L.length cap) L (by omega) hx F 0 [] q pv W hq hr)
  rw [hN] at hcap hL
  clear ht hg hq hx
  go_enter Tryd.func11, Tryd.ntmps11
  rw [hN] at HD HT ⊢
  clear hN
  obtain ⟨qa, qP⟩ := q
  have HS := Lib.hid (rd_start HT.out HG.out)
  go_wp2_with fail
  refine (HD.out _ _ HS.out).mono ?_
  rintro e w1 ⟨rfl, p1, h1, hb1, _⟩
  have hrow := h1.row
  obtain ⟨d0, d1, d2⟩ := h1.cells
  obtain ⟨m1, m2⟩ := h1.most
  rw [HN.out] at m2
  obtain ⟨v5, c5, rfl⟩ := row_slice hrow
  have HB := Lib.hid ((box_below w _).trans hb1)
  dsimp only at d1 d2 m1 m2
  have HR := Lib.hid hrow
  obtain ⟨M, hM⟩ : ∃ M, qP.length = M := ⟨_, rfl⟩
  have HM := Lib.hid hM
  rw [hM] at d2 m1
  have g1 : ¬ (256 : Int) < (M : Int) := by omega
  clear h1 hb1 hrow hM
  go_wp2
  go_quiet (fail)
  go_wp2
  refine bodyPost_ret (v := .tuple #[.slice v5 M c5, .int .i64 qa, .int .i64 0]) (by simp [results, Tryd.results11, go_sem]) rfl ?_
  refine ⟨_, rfl, ?_, below_drawn HB.out _⟩
  have := HR.out
  rw [HM.out] at this
  rw [show ((qa, qP) : StL).2.length = M from HM.out]
  exact rowOn this (below_draws _ _)

end Go.Proofs.YtgkpdcjkobieiaaDoor
