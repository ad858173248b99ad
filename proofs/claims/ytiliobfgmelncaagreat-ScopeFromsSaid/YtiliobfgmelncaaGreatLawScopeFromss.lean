/- The operations whose result one makes are a code by themselves, with the same names (no program). The law ScopeFroms: where the operations begin whose result one makes: a code by themselves, with the same variables. -/
import Derived.Test.YtiliobfgmelncaaGreatScopeTies
import Derived.Test.YtiliobfgmelncaaGreatScopeEnds
import Derived.Test.YtiliobfgmelncaaGreatScopeTolds
namespace Go.Proofs.YtiliobfgmelncaaGreat

/- D is the part of C from p on, up to i -/
structure PartC (C D : List OpL) (p i : Nat) : Prop where
  shape : shB C = true
  nest : nestB C = false
  few : C.length ≤ 128
  lt : i < C.length
  from_ : p = fromC C i
  len : D.length = i + 1 - p
  get : ∀ j (h : j < D.length) (h2 : p + j < C.length), D[j] = C[p + j]
theorem PartC.le {C D : List OpL} {p i : Nat} (P : PartC C D p i) : p ≤ i := by rw [P.from_]; exact fromC_le P.shape P.lt
theorem PartC.at_ {C D : List OpL} {p i : Nat} (P : PartC C D p i) : FromAt (hhO C) i p := by rw [P.from_]; exact fromC_at P.shape P.lt
theorem part_ht {C D : List OpL} {p i : Nat} (P : PartC C D p i) : ∀ j, j ≤ D.length → HtP D j ∧ hhO D j + hhO C p = hhO C (p + j)
  | 0, _ => by
    refine ⟨⟨Nat.zero_le _, fun k hk => ?_⟩, ?_⟩
    · have : k = 0 := by omega
      subst this; rfl
    · rw [hhO_zero, Nat.zero_add]; rfl
  | j + 1, hj => by
    obtain ⟨H, e⟩ := part_ht P j (by omega)
    have hl := P.len
    have hle := P.le
    have hlt := P.lt
    have hD : j < D.length := by omega
    have hC : p + j < C.length := by omega
    obtain ⟨h1, h2, h3⟩ := (shB_hts P.shape).step (p + j) hC
    have F := P.at_
    have f2 := F.at_
    have f3 := F.up (p + j + 1) (by omega) (by omega)
    have hg := P.get j hD hC
    rw [← hg] at h1 h2 h3
    have H2 := htP_next H hD h1 (by omega)
    refine ⟨H2, ?_⟩
    obtain ⟨_, _, _, k3⟩ := H2.step j (Nat.lt_succ_self j)
    rw [← Nat.add_assoc]
    omega
theorem part_whole {C D : List OpL} {p i : Nat} (P : PartC C D p i) : HtP D D.length ∧ shB D = true := by
  obtain ⟨H, e⟩ := part_ht P D.length (Nat.le_refl _)
  have hl := P.len
  have hle := P.le
  have f2 := P.at_.at_
  rw [show p + D.length = i + 1 by omega] at e
  refine ⟨H, ?_⟩
  rw [htP_end H]
  exact decide_eq_true (by omega)
theorem part_from {C D : List OpL} {p i : Nat} (P : PartC C D p i) {j : Nat} (hj : j < D.length) : fromC C (p + j) = p + fromC D j := by
  obtain ⟨H, hs⟩ := part_whole P
  have hl := P.len
  have hle := P.le
  have hlt := P.lt
  have F := P.at_
  have f2 := F.at_
  have G := fromC_at hs hj
  have g1 := G.le
  have g2 := G.at_
  obtain ⟨_, e1⟩ := part_ht P (fromC D j) (by omega)
  obtain ⟨_, e2⟩ := part_ht P (j + 1) (by omega)
  refine fromC_of ⟨by omega, by rw [Nat.add_assoc]; omega, fun q a b => ?_⟩
  obtain ⟨r, rfl⟩ : ∃ r, q = p + r := ⟨q - p, by omega⟩
  obtain ⟨_, e3⟩ := part_ht P r (by omega)
  have g3 := G.up r (by omega) (by omega)
  rw [Nat.add_assoc]
  omega
theorem part_kind {C D : List OpL} {p i : Nat} (P : PartC C D p i) {j : Nat} (hj : j < D.length) : kindO D j = kindO C (p + j) := by
  have hl := P.len
  have hle := P.le
  have hlt := P.lt
  rw [kindO_at hj, kindO_at (show p + j < C.length by omega), P.get j hj (by omega)]
theorem part_nest {C D : List OpL} {p i : Nat} (P : PartC C D p i) : nestB D = false := by
  have hl := P.len
  have hle := P.le
  have hlt := P.lt
  refine nest_no (i := D.length) (fun j hj h9 k a b hk => ?_) (Nat.le_refl _)
  have h := nest_yes (C := C) (i := p + j) (k := p + k) (by omega) (by rw [← part_kind P hj]; exact h9) (by rw [part_from P hj]; omega) (by omega) (by rw [← part_kind P (by omega)]; exact hk)
  rw [P.nest] at h; cases h
theorem part_names {C D : List OpL} {p i : Nat} (P : PartC C D p i) (cert : Bool) : ∀ (j : Nat), j < D.length → nmC D cert j = nmC C cert (p + j) := by
  obtain ⟨H, hs⟩ := part_whole P
  have HC := htP_whole P.shape
  have hl := P.len
  have hle := P.le
  have hlt := P.lt
  intro j
  induction j using Nat.strongRecOn with
  | _ j ih =>
    intro hj
    have hg := P.get j hj (by omega)
    have hC : p + j < C.length := by omega
    have h4 := ndO_le D[j]
    by_cases n0 : ndO D[j] = 0
    · rw [nmC_none cert hj n0 [] [], nmC_none cert hC (by rw [← hg]; exact n0) [] [], hg]
    · have hpos := needP_ahead H hj hj (by omega)
      obtain ⟨k, rfl⟩ : ∃ k, j = k + 1 := ⟨j - 1, by omega⟩
      have hk := ih k (by omega) (by omega)
      have hC2 : p + k + 1 < C.length := hC
      have hg2 : D[k + 1] = C[p + k + 1] := hg
      show _ = nmC C cert (p + k + 1)
      by_cases n1 : ndO D[k + 1] = 1
      · rw [nmC_one cert hj n1 [], nmC_one cert hC2 (by rw [← hg2]; exact n1) [], hg2, hk]
      · have n2 : ndO D[k + 1] = 2 := by omega
        have hfl := fromP_le H (i := k) (by omega)
        have hs2 := secondP_ahead H hj hj n2
        rw [nmC_two H cert hj hj n2, nmC_two HC cert hC2 hC2 (by rw [← hg2]; exact n2), hg2, hk, ih (fromC D k - 1) (by omega) (by omega), part_from P (show k < D.length by omega), show p + fromC D k - 1 = p + (fromC D k - 1) by omega]
theorem part_check {C D : List OpL} {p i : Nat} (P : PartC C D p i) (h : resE C = 0) : resE D = 0 := by
  obtain ⟨H, hs⟩ := part_whole P
  have hl := P.len
  have hle := P.le
  have hlt := P.lt
  have hfew := P.few
  rw [resE_is] at h ⊢
  have hn := part_nest P
  unfold checkC at h ⊢
  rw [if_neg (by omega), if_neg (by rw [hs, hn]; simp)]
  rw [if_neg (by omega), if_neg (by rw [P.shape, P.nest]; simp)] at h
  rw [if_neg]
  intro c
  rw [List.any_eq_true] at c
  obtain ⟨j, h1, h2⟩ := c
  have hj := List.mem_range.1 h1
  have hC : p + j < C.length := by omega
  have : eO C (p + j) = true := by
    unfold eO at h2 ⊢
    rw [dif_pos hj] at h2
    rw [dif_pos hC]
    have hg := P.get j hj hC
    rw [Bool.and_eq_true] at h2 ⊢
    rw [← hg]
    refine ⟨h2.1, ?_⟩
    have h8 : D[j].k = 8 := eq_of_beq h2.1
    have hpos := needP_ahead H hj hj (by rw [nd_of.2.2.2.1 h8]; decide)
    rw [show p + j - 1 = p + (j - 1) by omega, ← part_names P false (j - 1) (by omega)]
    exact h2.2
  rw [if_pos] at h
  · cases h
  · rw [List.any_eq_true]
    exact ⟨p + j, List.mem_range.2 hC, this⟩
/- the part itself -/
theorem part_of {C : List OpL} {i : Nat} (h : resE C = 0) (hi : i < C.length) : PartC C ((C.drop (fromC C i)).take (i + 1 - fromC C i)) (fromC C i) i := by
  obtain ⟨h1, h2, h3⟩ := resE_zero h
  have hle := fromC_le h2 hi
  refine ⟨h2, h3, h1, hi, rfl, ?_, fun j hj hj2 => ?_⟩
  · rw [List.length_take, List.length_drop]; omega
  · rw [List.getElem_take, List.getElem_drop]

end Go.Proofs.YtiliobfgmelncaaGreat

namespace Go.Proofs.YtiliobfgmelncaaGreat
open Go.RowKit

theorem OpsA.part {w : World} {g o n c : Nat} {C : List OpL} (h : OpsA w (some ⟨g, o, none⟩) n c C) {p i : Nat} (hp : p ≤ i) (hi : i < n) : OpsA w (some ⟨g, o + p * 7, none⟩) (i + 1 - p) (c - p) ((C.drop p).take (i + 1 - p)) := by
  have hl := h.len
  have hc := h.cap
  have hm := h.most
  refine ⟨by rw [List.length_take, List.length_drop]; omega, by omega, by omega, fun h0 => ?_⟩
  obtain ⟨g2, o2, he, hg, hcell⟩ := h.cells (by omega)
  injection he with he
  injection he with e1 e2
  subst e1 e2
  refine ⟨g, o + p * 7, rfl, hg, fun j hj => ?_⟩
  rw [List.length_take, List.length_drop] at hj
  obtain ⟨A, h7, hin⟩ := hcell (p + j) (by omega)
  have e : o + (p + j) * 7 = o + p * 7 + j * 7 := by omega
  rw [e] at h7
  refine ⟨A, ?_, ?_⟩
  · rw [List.getElem_take, List.getElem_drop]; exact h7
  · rw [List.getElem_take, List.getElem_drop]; exact hin

/- of a place in a code, what InScope tells -/
def InN (w : World) (N : List (List UInt8)) (e : Ending) (w' : World) : Prop := Below w.heap.size w w' ∧ ∃ (a : Option Addr) (c : Nat), e = .returned (.tuple #[.slice a N.length c, .int .i64 0]) ∧ TxtA w' a N.length c N
theorem inN_of {C : List OpL} {k : Nat} (h : resE C = 0) (hk : k < C.length) {w w' : World} {e : Ending} (hT : InT w C (k : Int) false e w') : InN w (nmC C false k) e w' := by
  obtain ⟨hb, L, a, c, rfl, hL, _, _, h2, _⟩ := hT
  have h0 : atE C (k : Int) = 0 := atE_ok h (by omega)
  obtain ⟨_, _, _, rfl⟩ := inT_names (cert := false) h2 h0
  rw [Int.toNat_natCast] at hL ⊢
  rw [h0]
  exact ⟨hb, a, c, rfl, hL⟩

set_option maxRecDepth 100000 in
set_option maxHeartbeats 800000 in
theorem scopeFroms_calls (C : List OpL) (hok : ∀ o ∈ C, OpOk o) (a : Option Addr) (n c : Nat) (i : Int) (w : World) (hin : OpsA w a n c C) : Calls Tryz.prog 6 #[.slice a n c, .int .i64 i] w fun e w' => e = .returned (.bool true) ∧ Below w.heap.size w w' := by
  have HP := Lib.hid (fun (W : World) (hb : Below w.heap.size w W) => oFrom_calls C hok a n c i W (hin.on hb))
  have HR := Lib.hid (fun (W : World) (hb : Below w.heap.size w W) => rOCheck_calls C hok a n c W (hin.on hb))
  have HBG := Lib.hid (big_calls a n c)
  have HAW := Lib.hid (fun W => awake_calls W)
  have hcap := hin.cap
  have hmost := hin.most
  unfold maxLen at hmost
  rw [← resE_is] at HR
  cases hbg : bigB n with
  | true =>
    rw [hbg] at HBG
    clear hbg hok hin hcap hmost
    go_enter Tryz.func6, Tryz.ntmps6
    go_wp2_with fail
    refine (HBG.out _).mono ?_
    rintro e w1 ⟨rfl, rfl⟩
    go_wp2_with fail
    refine (HAW.out _).mono ?_
    rintro e w2 ⟨rfl, hb⟩
    have HB := Lib.hid hb
    clear hb
    go_wp2
    go_ret
    exact ⟨rfl, HB.out⟩
  | false =>
    rw [hbg] at HBG
    clear hbg
    have hlen := hin.len
    by_cases h0 : resE C = 0
    case neg =>
      have hE := atE_err (i := i) h0
      rw [hE] at HP
      clear hok hin hE hlen hcap hmost
      generalize resE C = E at h0 HP HR
      have e0 : (E == 0) = false := beq_eq_false_iff_ne.2 h0
      have e1 : (E != 0) = true := bne_iff_ne.2 h0
      have HH0 := Lib.hid h0
      clear h0
      go_enter Tryz.func6, Tryz.ntmps6
      go_wp2_with fail
      refine (HBG.out _).mono ?_
      rintro e w1 ⟨rfl, rfl⟩
      go_wp2_with fail
      refine (HP.out _ (Below.refl _ _)).mono ?_
      rintro e w2 ⟨hb2, f, rfl, hf, _⟩
      obtain rfl := hf HH0.out
      have HB2 := Lib.hid hb2
      clear hb2 hf
      go_wp2_with fail
      refine (HR.out _ HB2.out).mono ?_
      rintro e w3 ⟨rfl, hb3⟩
      have HB3 := Lib.hid (HB2.out.trans (hb3.mono HB2.out.size))
      clear hb3
      go_wp2_with fail
      refine (HAW.out _).mono ?_
      rintro e w4 ⟨rfl, hb4⟩
      have HB4 := Lib.hid (HB3.out.trans (hb4.mono HB3.out.size))
      clear hb4
      go_wp2
      go_ret
      exact ⟨rfl, HB4.out⟩
    rw [h0] at HR
    by_cases hr : i < 0 ∨ (C.length : Int) ≤ i
    · have hE := atE_range h0 hr
      rw [hE] at HP
      rw [hlen] at hr
      clear hok hin hE hlen h0 hcap hmost
      rcases hr with hr | hr
      · go_enter Tryz.func6, Tryz.ntmps6
        go_wp2_with fail
        refine (HBG.out _).mono ?_
        rintro e w1 ⟨rfl, rfl⟩
        go_wp2_with fail
        refine (HP.out _ (Below.refl _ _)).mono ?_
        rintro e w2 ⟨hb2, f, rfl, hf, _⟩
        obtain rfl := hf (by decide)
        have HB2 := Lib.hid hb2
        clear hb2 hf
        go_wp2_with fail
        refine (HR.out _ HB2.out).mono ?_
        rintro e w3 ⟨rfl, hb3⟩
        have HB3 := Lib.hid (HB2.out.trans (hb3.mono HB2.out.size))
        clear hb3
        go_wp2_with fail
        refine (HAW.out _).mono ?_
        rintro e w4 ⟨rfl, hb4⟩
        have HB4 := Lib.hid (HB3.out.trans (hb4.mono HB3.out.size))
        clear hb4
        go_wp2
        go_ret
        exact ⟨rfl, HB4.out⟩
      · have hr0 : ¬ i < 0 := by omega
        have hr1 : i ≥ (n : Int) := hr
        go_enter Tryz.func6, Tryz.ntmps6
        go_wp2_with fail
        refine (HBG.out _).mono ?_
        rintro e w1 ⟨rfl, rfl⟩
        go_wp2_with fail
        refine (HP.out _ (Below.refl _ _)).mono ?_
        rintro e w2 ⟨hb2, f, rfl, hf, _⟩
        obtain rfl := hf (by decide)
        have HB2 := Lib.hid hb2
        clear hb2 hf
        go_wp2_with fail
        refine (HR.out _ HB2.out).mono ?_
        rintro e w3 ⟨rfl, hb3⟩
        have HB3 := Lib.hid (HB2.out.trans (hb3.mono HB2.out.size))
        clear hb3
        go_wp2_with fail
        refine (HAW.out _).mono ?_
        rintro e w4 ⟨rfl, hb4⟩
        have HB4 := Lib.hid (HB3.out.trans (hb4.mono HB3.out.size))
        clear hb4
        go_wp2
        go_ret
        exact ⟨rfl, HB4.out⟩
    · have hE := atE_ok h0 hr
      rw [hE] at HP
      obtain ⟨k, rfl⟩ : ∃ k : Nat, i = (k : Int) := ⟨i.toNat, by omega⟩
      rw [Int.toNat_natCast] at HP
      have hk : k < n := by omega
      have hkL : k < C.length := by omega
      have PP := part_of h0 hkL
      have hp := PP.le
      have hD := part_check PP h0
      have hDl := PP.len
      obtain ⟨g, o, ha, _⟩ := hin.cells (by omega)
      subst ha
      have HF := Lib.hid (fun (W : World) (hb : Below w.heap.size w W) => rOFrom_calls C (some ⟨g, o, none⟩) n c W (hin.on hb) (hhO C) (shB_hts PP.shape) (by have := PP.few; omega) k (fromC C k) hk PP.at_)
      have HRA := Lib.hid (fun r (h : (resA C)[k]? = some r) => show r.f = fromC C k by rw [resA_at h0 hkL h]; rfl)
      have HN1 := Lib.hid (fun (W : World) (hb : Below w.heap.size w W) => (inScope_calls C hok (some ⟨g, o, none⟩) n c k W (hin.on hb)).mono fun e w' hT => inN_of h0 hkL hT)
      have hnm : nmC ((C.drop (fromC C k)).take (k + 1 - fromC C k)) false (k - fromC C k) = nmC C false k := by
        rw [part_names PP false _ (by omega), show fromC C k + (k - fromC C k) = k by omega]
      have HN2 := Lib.hid (fun (W : World) (hb : Below w.heap.size w W) => (inScope_calls ((C.drop (fromC C k)).take (k + 1 - fromC C k)) (fun x hx => hok x (List.mem_of_mem_drop (List.mem_of_mem_take hx))) (some ⟨g, o + fromC C k * 7, none⟩) (k + 1 - fromC C k) (c - fromC C k) ((k - fromC C k : Nat) : Int) W ((hin.on hb).part hp hk)).mono fun e w' hT => inN_of hD (by omega) hT)
      rw [hnm] at HN2
      have hkf : k ≤ 128 := by have := PP.few; omega
      generalize fromC C k = p at HF HRA HN2 hp
      generalize nmC C false k = N at HN1 HN2
      have hne : ((k - p : Nat) : Int) = ((k + 1 - p : Nat) : Int) - 1 := by omega
      rw [hne] at HN2
      clear hne
      clear hok hin hE hlen h0 PP hD hDl hnm hkL hr
      have r0 : ¬ (k : Int) < 0 := by omega
      have r1 : ¬ (k : Int) ≥ (n : Int) := by omega
      go_enter Tryz.func6, Tryz.ntmps6
      go_wp2_with fail
      refine (HBG.out _).mono ?_
      rintro e w1 ⟨rfl, rfl⟩
      go_wp2_with fail
      refine (HP.out _ (Below.refl _ _)).mono ?_
      rintro e w2 ⟨hb2, f, rfl, _, hf⟩
      obtain ⟨r, hr1, hr2⟩ := hf trivial
      have hfp := hr2.trans (HRA.out r hr1)
      subst hfp
      have HB2 := Lib.hid hb2
      clear hb2 hf hr1 hr2
      go_wp2_with fail
      refine (HR.out _ HB2.out).mono ?_
      rintro e w3 ⟨rfl, hb3⟩
      have HB3 := Lib.hid (HB2.out.trans (hb3.mono HB2.out.size))
      clear hb3
      go_wp2_with fail
      refine (HF.out _ HB3.out).mono ?_
      rintro e w4 ⟨rfl, hb4⟩
      have HB4 := Lib.hid (HB3.out.trans (hb4.mono HB3.out.size))
      clear hb4
      go_wp2_with fail
      refine (HN1.out _ HB4.out).mono ?_
      rintro e w5 ⟨hb5, a5, c5, rfl, ht5⟩
      have HB5 := Lib.hid (HB4.out.trans (hb5.mono HB4.out.size))
      have HT5 := Lib.hid (fun W (hb : Below w5.heap.size w5 W) => ht5.on hb)
      clear hb5 ht5
      go_wp2_with fail
      refine (HN2.out _ HB5.out).mono ?_
      rintro e w6 ⟨hb6, a6, c6, rfl, ht6⟩
      have HB6 := Lib.hid (HB5.out.trans (hb6.mono HB5.out.size))
      have HT5' := Lib.hid (HT5.out _ hb6)
      have HS := Lib.hid (sameA_calls N N a5 a6 N.length N.length c5 c6 w6 HT5'.out ht6)
      rw [decide_eq_true rfl] at HS
      clear hb6 ht6
      go_wp2_with fail
      refine HS.out.mono ?_
      rintro e w7 ⟨rfl, hb7⟩
      have HB7 := Lib.hid (HB6.out.trans (hb7.mono HB6.out.size))
      clear hb7
      go_wp2_with fail
      refine (HAW.out _).mono ?_
      rintro e w8 ⟨rfl, hb8⟩
      have HB8 := Lib.hid (HB7.out.trans (hb8.mono HB7.out.size))
      clear hb8
      go_wp2
      go_ret
      exact ⟨rfl, HB8.out⟩

end Go.Proofs.YtiliobfgmelncaaGreat
