/- What is certain is in scope (no program). The law ScopeCertain: what is certain is in scope; both rise. -/
import Derived.Test.YtiliobfgmelncaaScopeTies
import Derived.Test.YtiliobfgmelncaaScopeEnds
namespace Go.Proofs.Ytiliobfgmelncaa

theorem vpart_sub {R : List (List TermL)} {V acc : List (List UInt8)} {x : List UInt8} : ∀ k, x ∈ vpart R V true acc k → x ∈ vpart R V false acc k
  | 0, h => h
  | k + 1, h => by
    rw [vpart, if_pos (show (!false || !R.any (lackZ k)) = true from rfl)]
    rw [vpart] at h
    split at h
    · rcases mem_moreO.1 h with h | h
      · exact mem_moreO.2 (.inl h)
      · exact mem_moreO.2 (.inr (vpart_sub k h))
    · exact mem_moreO.2 (.inr (vpart_sub k h))
theorem scB_sub {o : OpL} {a b a' b' : List (List UInt8)} {x : List UInt8} (ha : x ∈ a' → x ∈ a) (hb : x ∈ b' → x ∈ b) (h : x ∈ scB o true a' b') : x ∈ scB o false a b := by
  unfold scB at h ⊢
  by_cases n0 : ndO o = 0
  · rw [if_pos n0] at h ⊢
    exact vpart_sub _ h
  · rw [if_neg n0] at h ⊢
    by_cases n1 : ndO o = 1
    · rw [if_pos n1] at h ⊢
      rw [if_neg (show ¬ (false && o.s) = true by simp)]
      split at h
      · cases h
      · rw [if_neg (show ¬ (o.k = 8 ∧ true = false) from fun c => by cases c.2)] at h
        split
        · exact mem_moreO.2 (.inr (ha h))
        · exact ha h
    · rw [if_neg n1] at h ⊢
      by_cases k6 : o.k = 6
      · rw [if_pos (.inl k6)] at h ⊢
        exact ha h
      · rw [if_neg (show ¬ (o.k = 6 ∨ o.k = 5 ∧ false = true) from fun c => c.elim k6 (fun d => by cases d.2)), if_neg (show ¬ (o.k = 4 ∧ false = true) from fun c => by cases c.2)]
        split at h
        · exact mem_unionO.2 (.inl (ha h))
        · split at h
          · exact mem_unionO.2 (.inl (ha (mem_meetO.1 h).1))
          · rcases mem_unionO.1 h with h | h
            · exact mem_unionO.2 (.inl (ha h))
            · exact mem_unionO.2 (.inr (hb h))
theorem nmC_sub {C : List OpL} {m : Nat} (H : HtP C m) {x : List UInt8} : ∀ (i : Nat), i < m → x ∈ nmC C true i → x ∈ nmC C false i := by
  intro i
  induction i using Nat.strongRecOn with
  | _ i ih =>
    intro hi h
    obtain ⟨hl, h1, h2, h3⟩ := H.step i hi
    have h4 := ndO_le C[i]
    by_cases n0 : ndO C[i] = 0
    · rw [nmC_none true hl n0 [] []] at h
      rw [nmC_none false hl n0 [] []]
      exact scB_sub (fun h => h) (fun h => h) h
    · have hpos := needP_ahead H hi hl (by omega)
      obtain ⟨j, rfl⟩ : ∃ j, i = j + 1 := ⟨i - 1, by omega⟩
      have hj := ih j (by omega) (by omega)
      by_cases n1 : ndO C[j + 1] = 1
      · rw [nmC_one true hl n1 []] at h
        rw [nmC_one false hl n1 []]
        exact scB_sub hj (fun h => h) h
      · have n2 : ndO C[j + 1] = 2 := by omega
        have hfl := fromP_le H (i := j) (by omega)
        have hs := secondP_ahead H hi hl n2
        rw [nmC_two H true hi hl n2] at h
        rw [nmC_two H false hi hl n2]
        exact scB_sub (ih (fromC C j - 1) (by omega) (by omega)) hj h
/- of what is told: what is certain is in scope -/
theorem resA_sub {C : List OpL} {i : Nat} {r : ResL} (h : resE C = 0) (hr : (resA C)[i]? = some r) {x : List UInt8} (hx : x ∈ r.ct) : x ∈ r.sc := by
  obtain ⟨_, hs, _⟩ := resE_zero h
  rw [resA_is h, List.getElem?_map] at hr
  cases hc : (List.range C.length)[i]? with
  | none => rw [hc] at hr; cases hr
  | some j =>
    rw [hc] at hr
    have hj : j < C.length := List.mem_range.1 (List.mem_of_getElem? hc)
    have : resC C j = r := by injection hr
    subst this
    exact nmC_sub (htP_whole hs) j hj hx

end Go.Proofs.Ytiliobfgmelncaa

namespace Go.Proofs.Ytiliobfgmelncaa
open Go.RowKit

theorem rise_less {L : List (List UInt8)} (h : Rise L) {k : Nat} (hk : k + 1 < L.length) : Op.bytesLess L[k] L[k + 1] = true := by
  have := List.pairwise_iff_getElem.1 h k (k + 1) (by omega) hk (Nat.lt_succ_self k)
  exact this
theorem less_back {x y : List UInt8} (h : Op.bytesLess x y = true) : Op.bytesLess y x = false := by
  cases hb : Op.bytesLess y x with
  | false => rfl
  | true => have := less_trans h hb; rw [less_self] at this; cases this

theorem inT_sub {C : List OpL} {i : Int} {L M : List (List UInt8)} (h1 : atE C i = 0 → ∃ r, (resA C)[i.toNat]? = some r ∧ L = bif false then r.ct else r.sc) (h2 : atE C i ≠ 0 → M = []) (h3 : atE C i = 0 → ∃ r, (resA C)[i.toNat]? = some r ∧ M = bif true then r.ct else r.sc) : ∀ x ∈ M, x ∈ L := by
  intro x hx
  by_cases h0 : atE C i = 0
  · have e0 : resE C = 0 := by
      by_cases c : resE C = 0
      · exact c
      · rw [atE_err c] at h0; exact absurd h0 c
    obtain ⟨r, hr, rfl⟩ := h1 h0
    obtain ⟨r', hr', rfl⟩ := h3 h0
    rw [hr] at hr'
    injection hr' with hr'
    subst hr'
    exact resA_sub e0 hr hx
  · rw [h2 h0] at hx; cases hx

set_option maxRecDepth 100000 in
set_option maxHeartbeats 800000 in
theorem scopeCertain_calls (C : List OpL) (hok : ∀ o ∈ C, OpOk o) (a : Option Addr) (n c : Nat) (i : Int) (w : World) (hin : OpsA w a n c C) : Calls Try.prog 3 #[.slice a n c, .int .i64 i] w fun e w' => e = .returned (.bool true) ∧ Below w.heap.size w w' := by
  have HP := Lib.hid (fun (W : World) (hb : Below w.heap.size w W) => inScope_calls C hok a n c i W (hin.on hb))
  have HQ := Lib.hid (fun (W : World) (hb : Below w.heap.size w W) => certain_calls C hok a n c i W (hin.on hb))
  have HAW := Lib.hid (fun W => awake_calls W)
  clear hok hin
  have HSB := Lib.hid (fun (L M : List (List UInt8)) h1 h2 h3 => inT_sub (C := C) (i := i) (L := L) (M := M) h1 h2 h3)
  obtain ⟨E, hE⟩ : ∃ E, atE C i = E := ⟨_, rfl⟩
  unfold InT at HP HQ
  rw [hE] at HP HQ HSB
  clear hE
  go_enter Try.func3, Try.ntmps3
  go_wp2_with fail
  refine (HP.out _ (Below.refl _ _)).mono ?_
  rintro e w2 ⟨hb2, L, la, lc, rfl, hL, hri, hL1, hL2, hL3⟩
  have HB2 := Lib.hid hb2
  have HL := Lib.hid (fun W (hb : Below w2.heap.size w2 W) => hL.on hb)
  have HLR := Lib.hid hri
  have HSB2 := Lib.hid (fun M => HSB.out L M hL2)
  clear hb2 hL hL1 hL2 hri HSB
  go_wp2_with fail
  refine (HQ.out _ HB2.out).mono ?_
  rintro e w3 ⟨hb3, M, ma, mc, rfl, hM, hri, hM1, hM2, hM3⟩
  have HL' := Lib.hid (HL.out _ hb3)
  have HB3 := Lib.hid (HB2.out.trans (hb3.mono HB2.out.size))
  have HM := Lib.hid (fun W (hb : Below w3.heap.size w3 W) => hM.on hb)
  have HLL := Lib.hid (fun W (hb : Below w3.heap.size w3 W) => HL'.out.on hb)
  have HMR := Lib.hid hri
  have HSUB := Lib.hid (HSB2.out M hM1 hM2)
  clear hb3 hM hM1 hM2 hri HSB2 HL HL' HP HQ
  obtain ⟨mn, hmn⟩ : ∃ mn, M.length = mn := ⟨_, rfl⟩
  obtain ⟨ln, hln⟩ : ∃ ln, L.length = ln := ⟨_, rfl⟩
  rw [hmn] at HM hM3 ⊢
  rw [hln] at HLL hL3 ⊢
  have HMN := Lib.hid hmn
  have HLN := Lib.hid hln
  clear hmn hln
  go_wp2
  go_loopg [9] mn (fun gu i wr => ∃ k : Nat, i = .int .i64 k ∧ k + gu = mn ∧ Hid (Below w3.heap.size w3 wr))
  case atStart => exact ⟨0, rfl, by omega, Lib.hid (Below.refl _ _)⟩
  case round =>
    obtain ⟨W1, rfl⟩ : ∃ W1, W1 = wr := ⟨_, rfl⟩
    obtain ⟨k, rfl, hkg, HB⟩ := hrel
    by_cases hk : k < mn
    · obtain ⟨gg, rfl⟩ : ∃ gg, gk = gg + 1 := ⟨gk - 1, by omega⟩
      have hkM : k < M.length := by rw [HMN.out]; exact hk
      obtain ⟨g, o, ha, hgw, hcells⟩ := (HM.out _ HB.out).cells (by omega)
      subst ha
      have c0 := hcells k hkM
      have HIN := Lib.hid (fun nn => InA_calls L M[k] la ln lc (W1.drewN nn) (HLL.out _ (drew_below HB.out nn)))
      rw [decide_eq_true (HSUB.out _ (List.getElem_mem hkM))] at HIN
      have k0 : (0 : Int) ≤ (k : Int) := by omega
      have k1 : (k : Int) < (mn : Int) := by omega
      by_cases hk0 : k = 0
      · have g0 : ¬ 0 < k := by omega
        have g1 : decide (0 < k) = false := decide_eq_false g0
        clear hcells hk0
        generalize M[k] = x at c0 HIN
        go_wp2
        go_quiet (first | (go_at_call 6; exact Calls.quiet_of_same (HIN.out _)))
        go_wp2
        go_roundg gg
        case measure => omega
        case rel => exact ⟨k + 1, by go_num, by omega, Lib.hid (drew_below HB.out _)⟩
      · obtain ⟨j, hj⟩ : ∃ j, k = j + 1 := ⟨k - 1, by omega⟩
        have hjM : j < M.length := by omega
        have c1 := hcells j hjM
        have hle : Op.bytesLess M[j] M[k] = true := by
          have := rise_less HMR.out (k := j) (by omega)
          simpa only [hj] using this
        have g0 : 0 < k := by omega
        have g1 : decide (0 < k) = true := decide_eq_true g0
        have e0 : (k : Int) - 1 = (j : Int) := by omega
        have e1 : IntKind.i64.wrap (j : Int) = (j : Int) := IntWalk.i64_in _ (by omega)
        have j0 : (0 : Int) ≤ (j : Int) := by omega
        have j1 : (j : Int) < (mn : Int) := by omega
        clear hcells hk0 hj
        generalize M[k] = x at c0 HIN hle
        generalize M[j] = y at c1 hle
        have glt : Op.bytesLess (bs y).toList (bs x).toList = true := by rw [bs_toList, bs_toList]; exact hle
        have ggt : Op.bytesLess (bs x).toList (bs y).toList = false := by rw [bs_toList, bs_toList]; exact less_back hle
        have gne : ((bs x).toList == (bs y).toList) = false := by rw [bs_toList, bs_toList]; exact beq_eq_false_iff_ne.2 (fun e => less_ne hle e.symm)
        clear hle
        go_wp2
        go_quiet (first | (go_at_call 6; exact Calls.quiet_of_same (HIN.out _)))
        go_wp2
        go_roundg gg
        case measure => omega
        case rel => exact ⟨k + 1, by go_num, by omega, Lib.hid (drew_below HB.out _)⟩
    · have k1 : ¬ (k : Int) < (mn : Int) := by omega
      clear HM HMR HMN HSUB hkg
      go_wp2
      go_loopg [10] ln (fun gu i wr => ∃ k : Nat, i = .int .i64 k ∧ k + gu = ln + 1 ∧ 1 ≤ k ∧ Hid (Below w3.heap.size w3 wr))
      case atStart => exact ⟨1, rfl, by omega, Nat.le_refl _, HB⟩
      case round =>
        obtain ⟨W2, rfl⟩ : ∃ W2, W2 = wr := ⟨_, rfl⟩
        obtain ⟨q, rfl, hqg, hq1, HB2'⟩ := hrel
        by_cases hq : q < ln
        · obtain ⟨gg, rfl⟩ : ∃ gg, gk = gg + 1 := ⟨gk - 1, by omega⟩
          have hqL : q < L.length := by rw [HLN.out]; exact hq
          obtain ⟨g, o, ha, hgw, hcells⟩ := (HLL.out _ HB2'.out).cells (by omega)
          subst ha
          obtain ⟨j, hj⟩ : ∃ j, q = j + 1 := ⟨q - 1, by omega⟩
          have hjL : j < L.length := by omega
          have c0 := hcells q hqL
          have c1 := hcells j hjL
          have hle : Op.bytesLess L[j] L[q] = true := by
            have := rise_less HLR.out (k := j) (by omega)
            simpa only [hj] using this
          have q0 : (0 : Int) ≤ (q : Int) := by omega
          have q1 : (q : Int) < (ln : Int) := by omega
          have e0 : (q : Int) - 1 = (j : Int) := by omega
          have e1 : IntKind.i64.wrap (j : Int) = (j : Int) := IntWalk.i64_in _ (by omega)
          have j0 : (0 : Int) ≤ (j : Int) := by omega
          have j1 : (j : Int) < (ln : Int) := by omega
          clear hcells hj
          generalize L[q] = x at c0 hle
          generalize L[j] = y at c1 hle
          have glt : Op.bytesLess (bs y).toList (bs x).toList = true := by rw [bs_toList, bs_toList]; exact hle
          have ggt : Op.bytesLess (bs x).toList (bs y).toList = false := by rw [bs_toList, bs_toList]; exact less_back hle
          have gne : ((bs x).toList == (bs y).toList) = false := by rw [bs_toList, bs_toList]; exact beq_eq_false_iff_ne.2 (fun e => less_ne hle e.symm)
          clear hle
          go_wp2
          all_goals (try go_quiet (fail))
          all_goals (try go_wp2)
          go_roundg gg
          case measure => omega
          case rel => exact ⟨q + 1, by go_num, by omega, by omega, by first | exact HB2' | exact Lib.hid (drew_below HB2'.out _)⟩
        · have q1 : ¬ (q : Int) < (ln : Int) := by omega
          go_wp2_with fail
          refine (HAW.out _).mono ?_
          rintro e w9 ⟨rfl, hb9⟩
          have HB9 := Lib.hid (HB3.out.trans ((HB2'.out.trans (hb9.mono HB2'.out.size)).mono HB3.out.size))
          clear hb9
          go_wp2
          go_ret
          exact ⟨rfl, HB9.out⟩

end Go.Proofs.Ytiliobfgmelncaa
