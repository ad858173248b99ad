/- A name that a table has not: the statements' own name, in plain words and as it is written. -/
import Derived.Test.YtdnfaoanaehjhaaGreatDoorGrpOf
import Derived.Test.YtdnfaoanaehjhaaGreatDoorH2
namespace Go.Proofs.YtdnfaoanaehjhaaGreatDoor
open Go.RowKit Go.Maps

def longB (out x : List UInt8) : Bool := decide (out.length ≤ x.length ∧ out.length < 32)
def nameGo (V : List (List UInt8)) : Nat → List UInt8 → List UInt8
  | 0, out => out
  | f + 1, out => match V.find? (longB out) with
    | none => out
    | some x => nameGo V f (out ++ x.take 1)
def nameP (V : List (List UInt8)) : List UInt8 := let out := nameGo V 31 [110]; if out ∈ V then [] else out
theorem name_none {V : List (List UInt8)} {f : Nat} {out : List UInt8} (h : ∀ x ∈ V, longB out x = false) : nameGo V f out = out := by
  cases f with
  | zero => rfl
  | succ f =>
    have e : V.find? (longB out) = none := List.find?_eq_none.2 (fun x hx => by rw [h x hx]; simp)
    unfold nameGo
    rw [e]
theorem find_at {α : Type} {p : α → Bool} : ∀ {V : List α} {k : Nat} (hk : k < V.length), (∀ j (h : j < k), p (V[j]'(Nat.lt_trans h hk)) = false) → p V[k] = true → V.find? p = some V[k]
  | y :: V, 0, hk, _, h => by
    have h' : p y = true := h
    rw [List.find?_cons, h']; rfl
  | y :: V, k + 1, hk, hn, h => by
    have h0 : p y = false := hn 0 (Nat.succ_pos k)
    rw [List.find?_cons, h0]
    exact find_at (V := V) (k := k) (Nat.lt_of_succ_lt_succ hk) (fun j hj => hn (j + 1) (Nat.succ_lt_succ hj)) h
theorem name_some {V : List (List UInt8)} {f k : Nat} {out : List UInt8} (hk : k < V.length) (hn : ∀ j (h : j < k), longB out (V[j]'(Nat.lt_trans h hk)) = false) (h : longB out V[k] = true) : nameGo V (f + 1) out = nameGo V f (out ++ V[k].take 1) := by
  show (match V.find? (longB out) with
    | none => out
    | some x => nameGo V f (out ++ x.take 1)) = _
  rw [find_at hk hn h]
theorem name_len (V : List (List UInt8)) : ∀ (f : Nat) (out : List UInt8), (nameGo V f out).length ≤ out.length + f
  | 0, out => Nat.le_refl _
  | f + 1, out => by
    unfold nameGo
    cases V.find? (longB out) with
    | none => show out.length ≤ _; omega
    | some x =>
      have := name_len V f (out ++ x.take 1)
      rw [List.length_append, List.length_take] at this
      show (nameGo V f (out ++ x.take 1)).length ≤ _
      omega
theorem name_ok (V : List (List UInt8)) : okS (nameP V) := by
  have h : (nameP V).length ≤ 32 := by
    unfold nameP
    have := name_len V 31 [110]
    dsimp only
    split
    · simp
    · simp at this; omega
  show (bs (nameP V)).size ≤ maxLen
  rw [bs_size]
  unfold maxLen
  omega
/- how far the search is: this is the text, the first k are not long -/
def NameR (V : List (List UInt8)) (out : List UInt8) (k : Nat) : Prop := 1 ≤ out.length ∧ out.length ≤ 32 ∧ k ≤ V.length ∧ nameGo V (32 - out.length) out = nameGo V 31 [110] ∧ ∀ j (h : j < V.length), j < k → longB out V[j] = false
theorem nameR_zero (V : List (List UInt8)) : NameR V [110] 0 := ⟨by decide, by decide, Nat.zero_le _, rfl, fun j _ h => absurd h (Nat.not_lt_zero j)⟩
theorem nameR_next {V : List (List UInt8)} {out : List UInt8} {k : Nat} (h : NameR V out k) (hk : k < V.length) (hl : longB out V[k] = false) : NameR V out (k + 1) := by
  refine ⟨h.1, h.2.1, hk, h.2.2.2.1, fun j hj hjk => ?_⟩
  by_cases e : j = k
  · subst e; exact hl
  · exact h.2.2.2.2 j hj (by omega)
theorem nameR_more {V : List (List UInt8)} {out : List UInt8} {k : Nat} (h : NameR V out k) (hk : k < V.length) (hl : longB out V[k] = true) : NameR V (out ++ V[k].take 1) 0 ∧ (out ++ V[k].take 1).length = out.length + 1 := by
  have hc : out.length ≤ V[k].length ∧ out.length < 32 := by unfold longB at hl; simpa using hl
  have h1 := h.1
  have e : (out ++ V[k].take 1).length = out.length + 1 := by rw [List.length_append, List.length_take]; omega
  refine ⟨⟨by omega, by omega, Nat.zero_le _, ?_, fun j _ h => absurd h (Nat.not_lt_zero j)⟩, e⟩
  rw [e, ← h.2.2.2.1, show 32 - out.length = (32 - (out.length + 1)) + 1 by omega]
  exact (name_some hk (fun j hj => h.2.2.2.2 j _ hj) hl).symm
theorem nameR_end {V : List (List UInt8)} {out : List UInt8} {k : Nat} (h : NameR V out k) (hk : V.length ≤ k) : nameGo V 31 [110] = out := by
  rw [← h.2.2.2.1]
  refine name_none (fun x hx => ?_)
  obtain ⟨j, hj, rfl⟩ := List.mem_iff_getElem.1 hx
  exact h.2.2.2.2 j hj (by omega)

set_option maxRecDepth 100000 in
set_option maxHeartbeats 8000000 in
theorem name_calls (V : List (List UInt8)) (R : List RowL) (hx : okV V) (h33 : V.length ≤ 33) (tv : Value) (w : World) (ht : TabA w tv V R) :
    Calls Tryz.prog 20 #[tv] w fun e w' => e = .returned (.string (bs (nameP V))) ∧ Below w.heap.size w w' := by
  obtain ⟨va, n, vc, ra, m, rc, rfl, hV, hR⟩ := ht
  have HVL := Lib.hid hV.len
  have hcp := hV.cap
  have hms := hV.most
  unfold maxLen at hms
  have hn33 : n ≤ 33 := by rw [← hV.len]; exact h33
  obtain ⟨A, hA⟩ : ∃ A, w.heap.size = A := ⟨_, rfl⟩
  obtain ⟨W0, hW0⟩ : ∃ W0, w.alloc (.cells #[.slice va n vc, .slice ra m rc] 25) = W0 := ⟨_, rfl⟩
  have HB0 := Lib.hid (show Below w.heap.size w W0 by rw [← hW0]; exact box_below _ _)
  have HA0 := Lib.hid (show Blk W0 A 25 #[.slice va n vc, .slice ra m rc] by rw [← hW0, ← hA]; exact blk_new _ _ _)
  have HV := Lib.hid (hV.on HB0.out)
  have HAE := Lib.hid hA
  have HW0 := Lib.hid hW0
  have HR0 := Lib.hid (nameR_zero V)
  have HOX := Lib.hid hx
  have HNP := Lib.hid (show nameP V = if nameGo V 31 [110] ∈ V then [] else nameGo V 31 [110] from rfl)
  have q0 : W0.cell? ⟨A, 0, none⟩ = some (.slice va n vc) := (blk_cell HA0.out 0).trans rfl
  have hlA := blk_lt HA0.out
  generalize nameP V = F at HNP ⊢
  clear hV hR hA hW0 hx h33
  go_enter Tryz.func20, Tryz.ntmps20
  go_wp2
  rw [HW0.out, HAE.out]
  go_loopg [3, 4] (31 * (n + 1) + n) (fun g o i wr => ∃ (k : Nat) (out : List UInt8), i = .int .i64 k ∧ o = .string (bs out) ∧ (32 - out.length) * (n + 1) + (n - k) = g ∧ Hid (NameR V out k) ∧ W0 = wr)
  case atStart => exact ⟨0, [110], rfl, rfl, by simp, HR0, rfl⟩
  case round =>
    obtain ⟨k, out, rfl, rfl, hgk, HRD, rfl⟩ := hrel
    have k0 : (0 : Int) ≤ (k : Int) := by omega
    have h1 := HRD.out.1
    have h32 := HRD.out.2.1
    by_cases hk : k < n
    · have k1 : (k : Int) < (n : Int) := by omega
      have hkL : k < V.length := by rw [HVL.out]; exact hk
      obtain ⟨g, o, ha, hgw, hcells⟩ := HV.out.cells (by omega)
      subst ha
      have c0 := hcells k hkL
      have HNX := Lib.hid (fun h => nameR_next HRD.out hkL h)
      have HMO := Lib.hid (fun h => nameR_more HRD.out hkL h)
      have HLB := Lib.hid (show longB out V[k] = decide (out.length ≤ V[k].length ∧ out.length < 32) from rfl)
      clear hcells
      generalize V[k] = x at c0 HNX HMO HLB
      have hsx : (bs x).size = x.length := bs_size x
      have hso : (bs out).size = out.length := bs_size out
      by_cases hl : out.length ≤ x.length ∧ out.length < 32
      · obtain ⟨hl1, hl2⟩ := hl
        have HM := Lib.hid (HMO.out (by rw [HLB.out]; exact decide_eq_true ⟨hl1, hl2⟩))
        have hc1 : (((bs out).size : Nat) : Int) ≤ (((bs x).size : Nat) : Int) := by omega
        have hc2 : (((bs out).size : Nat) : Int) < 32 := by omega
        have hc3 : (1 : Int) ≤ (((bs x).size : Nat) : Int) := by omega
        have hc4 : 1 ≤ (bs x).size := by omega
        have HBS := Lib.hid (show Nm.bs out ++ (Nm.bs x).extract 0 1 = Nm.bs (out ++ x.take 1) by rw [Nm.piece_bs, Nm.bs_app]; rfl)
        obtain ⟨gg, rfl⟩ : ∃ gg, gk = gg + 1 := ⟨gk - 1, by
          have : 0 < (32 - out.length) * (n + 1) := Nat.mul_pos (by omega) (by omega)
          omega⟩
        clear HNX HMO HLB hsx hso
        go_wp2
        go_roundg ((32 - (out.length + 1)) * (n + 1) + n)
        case measure =>
          have e : (32 - out.length) * (n + 1) = (32 - (out.length + 1)) * (n + 1) + (n + 1) := by
            rw [← Nat.succ_mul]; congr 1; omega
          omega
        case rel => exact ⟨0, out ++ x.take 1, by go_num, congrArg Value.string HBS.out, by rw [HM.out.2]; omega, Lib.hid HM.out.1, rfl⟩
      · have HN := Lib.hid (HNX.out (by rw [HLB.out]; exact decide_eq_false hl))
        obtain ⟨gg, rfl⟩ : ∃ gg, gk = gg + 1 := ⟨gk - 1, by omega⟩
        clear HNX HMO HLB
        by_cases hl1 : out.length ≤ x.length
        · have hc1 : (((bs out).size : Nat) : Int) ≤ (((bs x).size : Nat) : Int) := by omega
          have hc2 : ¬ (((bs out).size : Nat) : Int) < 32 := by omega
          clear hsx hso hl
          go_wp2
          go_roundg gg
          case measure => omega
          case rel => exact ⟨k + 1, out, by go_num, rfl, by omega, HN, rfl⟩
        · have hc1 : ¬ (((bs out).size : Nat) : Int) ≤ (((bs x).size : Nat) : Int) := by omega
          clear hsx hso hl
          go_wp2
          go_roundg gg
          case measure => omega
          case rel => exact ⟨k + 1, out, by go_num, rfl, by omega, HN, rfl⟩
    · have k1 : ¬ (k : Int) < (n : Int) := by omega
      have HE := Lib.hid (nameR_end HRD.out (by rw [HVL.out]; omega))
      rw [HE.out] at HNP
      clear HRD hgk h1 h32
      go_wp2
      go_loopg [5] n (fun g i wr => ∃ k : Nat, i = .int .i64 k ∧ k + g = n ∧ Hid (¬ out ∈ V.take k) ∧ W0 = wr)
      case atStart => exact ⟨0, rfl, by omega, Lib.hid (by simp), rfl⟩
      case round =>
        obtain ⟨k, rfl, hkg, HNO, rfl⟩ := hrel
        have k0 : (0 : Int) ≤ (k : Int) := by omega
        by_cases hk : k < n
        · have k1 : (k : Int) < (n : Int) := by omega
          obtain ⟨gg, rfl⟩ : ∃ gg, gk = gg + 1 := ⟨gk - 1, by omega⟩
          have hkL : k < V.length := by rw [HVL.out]; exact hk
          obtain ⟨g, o, ha, hgw, hcells⟩ := HV.out.cells (by omega)
          subst ha
          have c0 := hcells k hkL
          have HTS := Lib.hid (show out ∈ V.take (k + 1) ↔ out ∈ V.take k ∨ out = V[k] by rw [List.take_succ_eq_append_getElem hkL, List.mem_append, List.mem_singleton])
          have HIN := Lib.hid (List.getElem_mem hkL)
          clear hcells
          generalize V[k] = x at c0 HTS HIN
          by_cases he : x = out
          · subst he
            have HF := Lib.hid (HNP.out.trans (if_pos HIN.out))
            have heq : ((bs x).toList == (bs x).toList) = true := beq_self_eq_true _
            clear HNP HTS HIN
            go_wp2
            go_ret
            exact ⟨by rw [HF.out]; rfl, HB0.out⟩
          · have HN := Lib.hid (show ¬ out ∈ V.take (k + 1) from fun c => (HTS.out.1 c).elim HNO.out (fun e => he e.symm))
            have hne : ((bs x).toList == (bs out).toList) = false := by rw [bs_toList, bs_toList]; exact beq_eq_false_iff_ne.2 he
            clear HTS HIN he
            go_wp2
            go_roundg gg
            case measure => omega
            case rel => exact ⟨k + 1, by go_num, by omega, HN, rfl⟩
        · have k1 : ¬ (k : Int) < (n : Int) := by omega
          have HF := Lib.hid (HNP.out.trans (if_neg (by have := HNO.out; rwa [List.take_of_length_le (by rw [HVL.out]; omega)] at this)))
          go_wp2
          go_ret
          exact ⟨by rw [HF.out]; rfl, HB0.out⟩

end Go.Proofs.YtdnfaoanaehjhaaGreatDoor
