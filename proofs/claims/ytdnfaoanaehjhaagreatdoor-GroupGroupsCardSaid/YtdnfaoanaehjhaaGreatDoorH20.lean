/- GrpConcat, EvalLaws, EvalRel, EvalKit, ShpOf, put together. -/
import Derived.Test.YtdnfaoanaehjhaaGreatDoorH11
import Derived.Test.YtdnfaoanaehjhaaGreatDoorH12
import Derived.Lib.AppendZeros
import Derived.Test.YtdnfaoanaehjhaaGreatDoorH2
import Derived.Test.YtdnfaoanaehjhaaGreatDoorH3
import Derived.Test.YtdnfaoanaehjhaaGreatDoorH4
import Derived.Lib.Hide
import Derived.Test.YtdnfaoanaehjhaaGreatDoorH16

/- Texts put together in new memory: slices.Concat of two slices of texts. -/
namespace Go.Proofs.YtdnfaoanaehjhaaGreatDoor
open Go.RowKit Go.Maps

set_option maxRecDepth 100000 in
set_option maxHeartbeats 4000000 in
theorem growS_calls (n : Nat) (hn : n ≤ 1000000000) (w : World) :
    Calls Tryz.prog 66 #[.slice none 0 0, .int .i64 n] w fun e w' => ∃ v, e = .returned v ∧ w'.ownsRow w.heap.size 9 1 v 0 [] ∧ Below w.heap.size w w' := by
  obtain ⟨i0, hi, hz0, hz1, hz2⟩ := info_parts info_text
  have n0 : ¬ (n : Int) < 0 := by omega
  have gw : IntKind.i64.wrap ((n : Int) - 0) = n := by rw [IntKind.wrap_i64]; omega
  by_cases h0 : n = 0
  · subst h0
    go_enter Tryz.func66, Tryz.ntmps66
    go_wp2
    go_ret
    exact ⟨_, rfl, World.ownsRow_nil _ _ _ _, Below.refl _ _⟩
  · have h1 : 0 < n := Nat.pos_of_ne_zero h0
    have n1 : (0 : Int) < (n : Int) := by omega
    have hrun := fun W ty => Lib.run_append_nil_zeros (P := Tryz.prog) (ty := ty) W 22 3 9 i0 (.string ⟨#[]⟩) .i64 .i64 Tryz.underlying22 Tryz.underlying3 hi hz0 n h1 (by rw [hz1]; decide) (by omega) (by rw [hz2]; omega)
    have HRUN := Lib.hid hrun
    have hge := grownCap_ge w n 0 9
    have hle := grownCap_le_maxLen w n 0 9 (by unfold maxLen; omega)
    have HGE := Lib.hid hge
    have HLE := Lib.hid hle
    unfold maxLen at hle
    clear hrun h0
    obtain ⟨cp, hcp⟩ : ∃ cp, grownCap w n 0 9 = cp := ⟨_, rfl⟩
    have HCP := Lib.hid hcp
    rw [hcp] at hge hle HGE HLE
    clear hcp
    go_enter Tryz.func66, Tryz.ntmps66
    go_wp2_with (at_builtin; refine Lib.wpList_append_run _ rfl (.tmp 20) (.tmp 21) 22 3 rfl (.slice none 0 0) (.int .i64 n) rfl rfl _ _ (HRUN.out _ _) ?_; rw [HCP.out])
    go_ret
    refine ⟨_, rfl, ?_, ((Below.refl w.heap.size w).drew).alloc (Nat.le_refl _) _⟩
    refine ⟨rfl, .inr ⟨w.heap.size, cp, _, rfl, Nat.le_refl _, heap_alloc_new w.drew _, Nat.zero_le _, HLE.out, ?_, by simp⟩⟩
    have hz : ∀ q, (Builtin.zeroCells #[Value.string ⟨#[]⟩] q).size = q := fun q => by simp [Builtin.zeroCells]
    rw [Array.size_append]
    have h3 := HGE.out
    show (Builtin.zeroCells #[Value.string ⟨#[]⟩] n).size + (Builtin.zeroCells #[Value.string ⟨#[]⟩] (cp - n)).size = cp * 1
    rw [hz, hz]
    omega

def catL (B N : List (List UInt8)) (k : Nat) : List (List UInt8) := if k = 0 then [] else if k = 1 then B else B ++ N
def szN (b n k : Nat) : Nat := if k = 0 then 0 else if k = 1 then b else b + n

set_option maxRecDepth 100000 in
set_option maxHeartbeats 4000000 in
theorem concat_calls (B N : List (List UInt8)) (ba : Option Addr) (bn bc : Nat) (na : Option Addr) (nn nc : Nat) (X : Nat) (w : World) (hX : Blk w X 22 #[.slice ba bn bc, .slice na nn nc]) (hB : TxtA w ba bn bc B) (hN : TxtA w na nn nc N) (h1 : bn ≤ 1000000) (h2 : nn ≤ 1000000) :
    Calls Tryz.prog 40 #[.slice (some ⟨X, 0, none⟩) 2 2] w fun e w' => ∃ va n vc, e = .returned (.slice va n vc) ∧ TxtK (fun b => w.heap.size ≤ b ∧ ¬ isT w' b) w' va n vc (B ++ N) ∧ Below w.heap.size w w' := by
  obtain ⟨i0, hi, hz0, hz1, hz2⟩ := info_parts info_text
  have HX := Lib.hid hX
  have HB := Lib.hid hB
  have HN := Lib.hid hN
  have HBL := Lib.hid hB.len
  have HNL := Lib.hid hN.len
  have b1 := hB.cap
  have b2 := hB.most
  have b3 := hN.cap
  have b4 := hN.most
  unfold maxLen at b2 b4
  have x0 : w.cell? ⟨X, 0, none⟩ = some (.slice ba bn bc) := (blk_cell hX 0).trans rfl
  have x1 : w.cell? ⟨X, 1, none⟩ = some (.slice na nn nc) := (blk_cell hX 1).trans rfl
  have HG := Lib.hid (fun W => growS_calls (bn + nn) (by omega) W)
  have hlx := blk_lt hX
  clear hX hB hN
  go_enter Tryz.func40, Tryz.ntmps40
  go_wp2
  go_loopg [3, 5, 11] 2 (fun g s _ i wr => ∃ k : Nat, i = .int .i64 k ∧ k + g = 2 ∧ s = .int .i64 (szN bn nn k : Nat) ∧ w = wr)
  case atStart => exact ⟨0, rfl, by omega, rfl, rfl⟩
  case round =>
    obtain ⟨k, rfl, hkg, rfl, rfl⟩ := hrel
    have hk : k = 0 ∨ k = 1 ∨ k = 2 := by omega
    rcases hk with rfl | rfl | rfl
    · have hs0 : (szN bn nn 0 : Nat) = 0 := rfl
      have gw : IntKind.i64.wrap (bn : Int) = bn := by rw [IntKind.wrap_i64]; omega
      have gw2 : IntKind.i64.wrap (0 + (bn : Int)) = bn := by rw [IntKind.wrap_i64]; omega
      have n0 : ¬ (bn : Int) < 0 := by omega
      rw [hs0]
      go_wp2
      go_roundg 1
      case measure => omega
      case rel => exact ⟨1, rfl, by omega, rfl, rfl⟩
    · have hs1 : (szN bn nn 1 : Nat) = bn := rfl
      have gw : IntKind.i64.wrap ((bn : Int) + (nn : Int)) = ((bn + nn : Nat) : Int) := by rw [IntKind.wrap_i64]; omega
      have n0 : ¬ ((bn + nn : Nat) : Int) < 0 := by omega
      have n2 : ¬ (bn : Int) + (nn : Int) < 0 := by omega
      rw [hs1]
      go_wp2
      go_roundg 0
      case measure => omega
      case rel => exact ⟨2, rfl, by omega, rfl, rfl⟩
    · have hs2 : (szN bn nn 2 : Nat) = bn + nn := rfl
      rw [hs2]
      go_wp2_with fail
      refine (HG.out _).mono ?_
      rintro e w1 ⟨v, rfl, hown, hb1⟩
      have HO := Lib.hid hown
      have HB1 := Lib.hid hb1
      have y0 : w1.cell? ⟨X, 0, none⟩ = some (.slice ba bn bc) := keptC x0 hb1 hlx
      have y1 : w1.cell? ⟨X, 1, none⟩ = some (.slice na nn nc) := keptC x1 hb1 hlx
      clear hown hb1
      go_wp2
      go_loopg [6, 8, 27] 2 (fun g v _ i wr => ∃ k : Nat, i = .int .i64 k ∧ k + g = 2 ∧ Hid (wr.ownsRow w.heap.size 9 1 v (catL B N k).length (textCells (catL B N k))) ∧ Hid (Below w.heap.size w wr))
      case atStart => exact ⟨0, rfl, by omega, HO, HB1⟩
      case round =>
        obtain ⟨W2, rfl⟩ : ∃ W2, W2 = wr := ⟨_, rfl⟩
        obtain ⟨k, rfl, hkg, HO2, HB2⟩ := hrel
        clear y0 y1
        have hk : k = 0 ∨ k = 1 ∨ k = 2 := by omega
        rcases hk with rfl | rfl | rfl
        · have hc : catL B N 0 = ([] : List (List UInt8)) := rfl
          have ho2 := HO2.out
          rw [hc] at ho2
          have HO3 := Lib.hid ho2
          have z0 : W2.cell? ⟨X, 0, none⟩ = some (.slice ba bn bc) := keptC x0 HB2.out hlx
          have z1 : W2.cell? ⟨X, 1, none⟩ = some (.slice na nn nc) := keptC x1 HB2.out hlx
          clear ho2
          go_wp2_with (at_builtin; refine append_any (.tmp 31) (.tmp 32) 22 ⟨rfl, rfl⟩ w.heap.size 9 i0 (.string ⟨#[]⟩) 1 16 Tryz.underlying22 hi hz0 hz1 hz2 rfl (by decide) u6 _ _ rfl HO3.out ba bn bc (textCells B) rfl (by rw [textCells_len, HBL.out, Nat.mul_one]) (HB.out.on HB2.out).news textCells_cell (by unfold maxLen; rw [List.length_nil]; omega) (by rw [List.length_nil]; omega) HB2.out.size ?_; intro v4 w4 ho4 hg4 _)
          go_roundg 1
          case measure => omega
          case rel => exact ⟨1, rfl, by omega, Lib.hid (by have := ho4.out; rw [show catL B N (0 + 1) = B from rfl, HBL.out]; rw [List.length_nil, Nat.zero_add] at this; exact this), Lib.hid (HB2.out.grown hg4.out HB2.out.size (fun q hq => (HO3.out.lt q hq).1))⟩
        · have hc : catL B N 1 = B := rfl
          have ho2 := HO2.out
          rw [hc] at ho2
          have HO3 := Lib.hid ho2
          have z0 : W2.cell? ⟨X, 0, none⟩ = some (.slice ba bn bc) := keptC x0 HB2.out hlx
          have z1 : W2.cell? ⟨X, 1, none⟩ = some (.slice na nn nc) := keptC x1 HB2.out hlx
          clear ho2
          go_wp2_with (at_builtin; refine append_any (.tmp 31) (.tmp 32) 22 ⟨rfl, rfl⟩ w.heap.size 9 i0 (.string ⟨#[]⟩) 1 16 Tryz.underlying22 hi hz0 hz1 hz2 rfl (by decide) u6 _ _ rfl HO3.out na nn nc (textCells N) rfl (by rw [textCells_len, HNL.out, Nat.mul_one]) (HN.out.on HB2.out).news textCells_cell (by unfold maxLen; rw [HBL.out]; omega) (by rw [HBL.out]; omega) HB2.out.size ?_; intro v4 w4 ho4 hg4 _)
          go_roundg 0
          case measure => omega
          case rel => exact ⟨2, rfl, by omega, Lib.hid (by have := ho4.out; rw [show catL B N (1 + 1) = B ++ N from rfl, List.length_append, HNL.out, textCells_app]; exact this), Lib.hid (HB2.out.grown hg4.out HB2.out.size (fun q hq => (HO3.out.lt q hq).1))⟩
        · have hc : catL B N 2 = B ++ N := rfl
          have ho2 := HO2.out
          rw [hc] at ho2
          obtain ⟨va, vc, hvf, hT⟩ := own_txts ho2
          subst hvf
          have HT := Lib.hid hT
          clear ho2 hT
          go_wp2
          go_ret
          exact ⟨va, _, vc, rfl, HT.out, HB2.out⟩

end Go.Proofs.YtdnfaoanaehjhaaGreatDoor

/- What formulas come to, further (no program): formulas put together; && and || hang on no order; what is not named says nothing; = and != are apart. -/
namespace Go.Proofs.YtdnfaoanaehjhaaGreatDoor

theorem chk_append (a b : List PartL) : ∀ h, chkGo (a ++ b) h = (chkGo a h).bind (chkGo b) := by
  induction a with
  | nil => intro h; rfl
  | cons p a ih =>
    intro h
    show (if goodM p = true ∧ nd p ≤ h then chkGo (a ++ b) (h - nd p + 1) else none) = _
    by_cases c : goodM p = true ∧ nd p ≤ h
    · rw [if_pos c, ih]; show _ = Option.bind (if goodM p = true ∧ nd p ≤ h then _ else _) _; rw [if_pos c]
    · rw [if_neg c]; show _ = Option.bind (if goodM p = true ∧ nd p ≤ h then _ else _) _; rw [if_neg c]; rfl
theorem chk_more (m : Nat) : ∀ (L : List PartL) (h h' : Nat), chkGo L h = some h' → chkGo L (h + m) = some (h' + m)
  | [], h, h', e => by cases e; rfl
  | p :: r, h, h', e => by
    unfold chkGo at e ⊢
    by_cases c : goodM p = true ∧ nd p ≤ h
    · rw [if_pos c] at e
      rw [if_pos ⟨c.1, by omega⟩, ← chk_more m r _ _ e]
      congr 1
      omega
    · rw [if_neg c] at e; cases e
theorem stk_more (V : List (List UInt8)) (T : List TermL) (s : List VL) : ∀ (L : List PartL) (h h' : Nat) (s0 : List VL), chkGo L h = some h' → s0.length = h → stkGo V T L (s0 ++ s) = stkGo V T L s0 ++ s ∧ (stkGo V T L s0).length = h'
  | [], h, h', s0, e, hl => by cases e; exact ⟨rfl, hl⟩
  | p :: r, h, h', s0, e, hl => by
    unfold chkGo at e
    by_cases c : goodM p = true ∧ nd p ≤ h
    · rw [if_pos c] at e
      have h1 : nd p ≤ s0.length := by omega
      have := stk_more V T s r _ h' (partV V T p (s0.take (nd p)).reverse :: s0.drop (nd p)) e (by rw [List.length_cons, List.length_drop]; omega)
      unfold stkGo
      rw [List.take_append_of_le_length h1, List.drop_append_of_le_length h1]
      exact this
    · rw [if_neg c] at e; cases e
/- a formula: what it comes to stands on what was there -/
def FormS (L : List PartL) : Prop := chkGo L 0 = some 1
theorem form_stk (V : List (List UInt8)) (T : List TermL) {L : List PartL} (h : FormS L) (s : List VL) : stkGo V T L s = evalL V T L :: s := by
  obtain ⟨h1, h2⟩ := stk_more V T s L 0 1 [] h rfl
  rw [List.nil_append] at h1
  rw [h1]
  unfold evalL
  cases hs : stkGo V T L [] with
  | nil => rw [hs] at h2; cases h2
  | cons a r =>
    rw [hs] at h2
    cases r with
    | nil => rfl
    | cons b r => simp at h2
theorem form_one {a : List PartL} {p : PartL} (ha : FormS a) (hp : goodM p = true) (hn : nd p = 1) : FormS (a ++ [p]) := by
  unfold FormS at *
  rw [chk_append, ha]
  show (if goodM p = true ∧ nd p ≤ 1 then _ else _) = _
  rw [if_pos ⟨hp, by omega⟩, hn]; rfl
theorem form_two {a b : List PartL} {p : PartL} (ha : FormS a) (hb : FormS b) (hp : goodM p = true) (hn : nd p = 2) : FormS (a ++ b ++ [p]) := by
  have hb1 := chk_more 1 b 0 1 hb
  unfold FormS at *
  rw [chk_append, chk_append, ha]
  show Option.bind (chkGo b 1) _ = _
  rw [hb1]
  show (if goodM p = true ∧ nd p ≤ 2 then _ else _) = _
  rw [if_pos ⟨hp, by omega⟩, hn]; rfl
theorem eval_one (V : List (List UInt8)) (T : List TermL) {a : List PartL} {p : PartL} (ha : FormS a) (hn : nd p = 1) : evalL V T (a ++ [p]) = partV V T p [evalL V T a] := by
  show (stkGo V T (a ++ [p]) []).headD none = _
  rw [stk_append, form_stk V T ha []]
  show partV V T p ([evalL V T a].take (nd p)).reverse = _
  rw [hn]; rfl
theorem eval_two (V : List (List UInt8)) (T : List TermL) {a b : List PartL} {p : PartL} (ha : FormS a) (hb : FormS b) (hn : nd p = 2) : evalL V T (a ++ b ++ [p]) = partV V T p [evalL V T a, evalL V T b] := by
  show (stkGo V T (a ++ b ++ [p]) []).headD none = _
  rw [stk_append, stk_append, form_stk V T ha [], form_stk V T hb]
  show partV V T p ([evalL V T b, evalL V T a].take (nd p)).reverse = _
  rw [hn]; rfl

/- truths -/
theorem truth_true (b : Bool) : ofZ (trueV b) = onZ b := by cases b <;> rfl
theorem onZ_cases (b : Bool) : onZ b = 0 ∨ onZ b = 1 := by cases b <;> simp [onZ]
theorem truth_cases (t : TermL) : truthZ t = -1 ∨ truthZ t = 0 ∨ truthZ t = 1 := by
  unfold truthZ
  split
  · exact .inr (onZ_cases _)
  · split
    · exact .inr (onZ_cases _)
    · split
      · exact .inr (onZ_cases _)
      · exact .inl rfl
theorem ofZ_cases (v : VL) : ofZ v = -1 ∨ ofZ v = 0 ∨ ofZ v = 1 := by
  cases v with
  | none => exact .inl rfl
  | some t => exact truth_cases t
theorem and_comm (a b : Int) : andV a b = andV b a := by
  unfold andV
  have e1 : (a = 0 ∨ b = 0) = (b = 0 ∨ a = 0) := propext Or.comm
  have e2 : (a = 1 ∧ b = 1) = (b = 1 ∧ a = 1) := propext And.comm
  simp only [e1, e2]
theorem or_comm (a b : Int) : orV a b = orV b a := by
  unfold orV
  have e1 : (a = 1 ∨ b = 1) = (b = 1 ∨ a = 1) := propext Or.comm
  have e2 : (a = 0 ∧ b = 0) = (b = 0 ∧ a = 0) := propext And.comm
  simp only [e1, e2]
/- not, of a value -/
def notV : VL → VL
  | none => none
  | some t => singleV 4 t
theorem notV_eq (v : VL) : notV v = if ofZ v = -1 then none else trueV (decide (ofZ v = 0)) := by
  cases v with
  | none => rfl
  | some t =>
    show singleV 4 t = _
    unfold singleV
    rw [if_pos rfl]
    show (if 0 ≤ truthZ t then trueV (decide (truthZ t = 0)) else none) = if truthZ t = -1 then none else trueV (decide (truthZ t = 0))
    rcases truth_cases t with h | h | h <;> rw [h] <;> rfl
theorem notV_of (v : VL) : ofZ (notV v) = if ofZ v = -1 then -1 else 1 - ofZ v := by
  rw [notV_eq]
  rcases ofZ_cases v with h | h | h
  · rw [h]; rfl
  · rw [h, if_neg (by decide), if_neg (by decide), truth_true]; rfl
  · rw [h, if_neg (by decide), if_neg (by decide), truth_true]; rfl
theorem not_and (a b : VL) : notV (andV (ofZ a) (ofZ b)) = orV (ofZ (notV a)) (ofZ (notV b)) := by
  rw [notV_of, notV_of]
  rcases ofZ_cases a with h | h | h <;> rcases ofZ_cases b with g | g | g <;> rw [h, g] <;> rfl
theorem part_and (V : List (List UInt8)) (T : List TermL) (p : PartL) (h : p.k = 6) (a b : VL) : partV V T p [a, b] = andV (ofZ a) (ofZ b) := by
  unfold partV; rw [h]; rfl
theorem part_or (V : List (List UInt8)) (T : List TermL) (p : PartL) (h : p.k = 7) (a b : VL) : partV V T p [a, b] = orV (ofZ a) (ofZ b) := by
  unfold partV; rw [h]; rfl
theorem part_not (V : List (List UInt8)) (T : List TermL) (p : PartL) (h : p.k = 4) (a : VL) : partV V T p [a] = notV a := by
  unfold partV; rw [h]; cases a <;> rfl
theorem part_both (V : List (List UInt8)) (T : List TermL) (p : PartL) {k : Int} (hk : p.k = k) (h : 8 ≤ k ∧ k ≤ 24) (a b : VL) : partV V T p [a, b] = match a, b with
    | some x, some y => bothV k x y
    | _, _ => none := by
  unfold partV
  rw [hk, if_neg (by omega), if_neg (by omega), if_neg (by omega), if_neg (by omega), if_neg (by omega), if_neg (by omega), if_neg (by omega)]
  cases a <;> cases b <;> rfl

/- what a formula comes to hangs on what it names alone -/
def namesIn (N : List (List UInt8)) (L : List PartL) : Prop := ∀ p ∈ L, (p.k = 2 ∨ p.k = 3) → p.m ∈ N
theorem bound_same (N : List (List UInt8)) {m : List UInt8} (hm : m ∈ N) : ∀ (V : List (List UInt8)) (T T' : List TermL), T.length = T'.length → (∀ i (h : i < V.length) (h1 : i < T.length) (h2 : i < T'.length), V[i] ∈ N → T[i] = T'[i]) → boundT m V T = boundT m V T'
  | [], T, T', _, _ => by unfold boundT; rfl
  | v :: V, [], [], _, _ => rfl
  | v :: V, t :: T, t' :: T', hl, h => by
    unfold boundT
    by_cases c : v = m
    · rw [if_pos c, if_pos c]
      exact h 0 (by simp) (by simp) (by simp) (by rw [← c] at hm; exact hm)
    · rw [if_neg c, if_neg c]
      exact bound_same N hm V T T' (by simpa using hl) (fun i a b d e => h (i + 1) (by simpa using a) (by simpa using b) (by simpa using d) (by simpa using e))
theorem part_same (N : List (List UInt8)) (V : List (List UInt8)) (T T' : List TermL) (hb : ∀ m ∈ N, boundT m V T = boundT m V T') (p : PartL) (hp : (p.k = 2 ∨ p.k = 3) → p.m ∈ N) (l : List VL) : partV V T p l = partV V T' p l := by
  unfold partV
  by_cases c2 : p.k = 2
  · rw [hb p.m (hp (.inl c2))]
  · by_cases c3 : p.k = 3
    · rw [hb p.m (hp (.inr c3))]
    · simp only [if_neg c2, if_neg c3]
theorem stk_same (N : List (List UInt8)) (V : List (List UInt8)) (T T' : List TermL) (hb : ∀ m ∈ N, boundT m V T = boundT m V T') : ∀ (L : List PartL), namesIn N L → ∀ s, stkGo V T L s = stkGo V T' L s
  | [], _, s => rfl
  | p :: r, h, s => by
    unfold stkGo
    rw [part_same N V T T' hb p (h p (by simp)), stk_same N V T T' hb r (fun q hq => h q (List.mem_cons_of_mem _ hq))]

/- = and != of two terms -/
theorem apart (a b : TermL) : (bothV 8 a b = none ∧ bothV 9 a b = none) ∨ ∃ c, bothV 8 a b = trueV c ∧ bothV 9 a b = trueV (!c) := by
  have e8 : bothV 8 a b = if equalZ a b < 0 then none else trueV (decide (equalZ a b = 1) == true) := rfl
  have e9 : bothV 9 a b = if equalZ a b < 0 then none else trueV (decide (equalZ a b = 1) == false) := rfl
  rw [e8, e9]
  by_cases h : equalZ a b < 0
  · rw [if_pos h, if_pos h]; exact .inl ⟨rfl, rfl⟩
  · rw [if_neg h, if_neg h]
    exact .inr ⟨decide (equalZ a b = 1), by cases decide (equalZ a b = 1) <;> rfl, by cases decide (equalZ a b = 1) <;> rfl⟩

end Go.Proofs.YtdnfaoanaehjhaaGreatDoor

/- What comes of a part as a term (no program): none is nought's term; what is no error is a term of a kind. -/
namespace Go.Proofs.YtdnfaoanaehjhaaGreatDoor

def toV (t : TermL) : VL := if t.k = 0 then none else some t
def unV (v : VL) : TermL := v.getD noTerm
/- what is no error has a kind -/
def OkV (v : VL) : Prop := ∀ s, v = some s → s.k ≠ 0
theorem ok_none : OkV none := fun _ h => by cases h
theorem ok_some {t : TermL} (h : t.k ≠ 0) : OkV (some t) := fun s e => by cases e; exact h
theorem ok_lit (x y : List UInt8) : OkV (some (litT x y)) := ok_some (by unfold litT; simp)
theorem ok_truth (b : Bool) : OkV (trueV b) := ok_lit _ _
theorem to_un {v : VL} (h : OkV v) : toV (unV v) = v := by
  cases v with
  | none => rfl
  | some t =>
    show (if t.k = 0 then none else some t) = _
    rw [if_neg (h t rfl)]
theorem un_to {t : TermL} (h : t.k ≠ 0) : unV (toV t) = t := by unfold toV unV; rw [if_neg h]; rfl
theorem to_ok (t : TermL) : OkV (toV t) := by
  intro s h
  unfold toV at h
  split at h
  · cases h
  · rename_i k; cases h; exact k
theorem to_of (t : TermL) (h : t.k = 0) : toV t = none := if_pos h
theorem to_some (t : TermL) (h : t.k ≠ 0) : toV t = some t := if_neg h
def truthT (b : Bool) : TermL := litT (if b then txT else txF) tyB
theorem un_truth (b : Bool) : unV (trueV b) = truthT b := rfl

theorem ok_and (a b : Int) : OkV (andV a b) := by
  unfold andV
  split
  · exact ok_truth _
  · split
    · exact ok_truth _
    · exact ok_none
theorem ok_or (a b : Int) : OkV (orV a b) := by
  unfold orV
  split
  · exact ok_truth _
  · split
    · exact ok_truth _
    · exact ok_none
theorem ok_reck (h : Int) (a b : TermL) : OkV (reckV h a b) := by
  unfold reckV
  split
  · split
    · exact ok_lit _ _
    · exact ok_none
  · exact ok_none
theorem ok_order (k : Int) (a b : TermL) : OkV (orderV k a b) := by
  unfold orderV
  split
  · exact ok_truth _
  · exact ok_none
theorem ok_both (k : Int) (a b : TermL) : OkV (bothV k a b) := by
  unfold bothV
  split
  · split
    · exact ok_none
    · exact ok_truth _
  · split
    · exact ok_order _ _ _
    · split
      · exact ok_truth _
      · exact ok_reck _ _ _
theorem ok_single (k : Int) (t : TermL) : OkV (singleV k t) := by
  unfold singleV
  repeat' split
  all_goals first | exact ok_none | exact ok_truth _ | exact ok_reck _ _ _ | exact ok_lit _ _ | exact ok_some (by simp)
theorem ok_coal : ∀ (l : List VL), (∀ v ∈ l, OkV v) → OkV (coalV l)
  | [], _ => ok_none
  | some t :: l, h => h (some t) (by simp)
  | none :: l, h => ok_coal l (fun v hv => h v (List.mem_cons_of_mem _ hv))
theorem ok_getD {l : List VL} (h : ∀ v ∈ l, OkV v) (i : Nat) : OkV (l.getD i none) := by
  rw [List.getD_eq_getElem?_getD]
  cases he : l[i]? with
  | none => exact ok_none
  | some v => exact h v (List.mem_of_getElem? he)
theorem ok_part (V : List (List UInt8)) (T : List TermL) {p : PartL} (hp : goodM p = true) {l : List VL} (h : ∀ v ∈ l, OkV v) : OkV (partV V T p l) := by
  unfold partV
  split
  · rename_i h1
    have hr := (need_good hp).2.2.2
    unfold rightM at hr
    rw [if_pos h1] at hr
    simp only [Bool.and_eq_true, valueT, Bool.or_eq_true, decide_eq_true_eq] at hr
    exact ok_some (by omega)
  · split
    · split
      · exact ok_none
      · rename_i h2; exact ok_some h2
    · split
      · exact ok_truth _
      · split
        · exact ok_and _ _
        · split
          · exact ok_or _ _
          · split
            · split
              · exact ok_none
              · exact ok_getD h _
            · split
              · exact ok_coal l h
              · split
                · exact ok_single _ _
                · exact ok_both _ _ _
                · exact ok_none
theorem ok_stk (V : List (List UInt8)) (T : List TermL) : ∀ (L : List PartL) (s : List VL), (∀ p ∈ L, goodM p = true) → (∀ v ∈ s, OkV v) → ∀ v ∈ stkGo V T L s, OkV v
  | [], s, _, hs => hs
  | p :: r, s, hL, hs => by
    unfold stkGo
    refine ok_stk V T r _ (fun q hq => hL q (List.mem_cons_of_mem _ hq)) (fun v hv => ?_)
    rcases List.mem_cons.1 hv with rfl | hv
    · exact ok_part V T (hL p (by simp)) (fun u hu => hs u (List.mem_of_mem_take (List.mem_reverse.1 hu)))
    · exact hs v (List.mem_of_mem_drop hv)

/- comparisons: three ways -/
theorem cmpP_num {a b : TermL} (h1 : (ofP a).2 = true) (h2 : (ofP b).2 = true) : cmpP a b = (cmpN (ofP a).1 (ofP b).1, true) := by unfold cmpP; rw [if_pos ⟨h1, h2⟩]
theorem cmpP_text {a b : TermL} (h : ¬ ((ofP a).2 = true ∧ (ofP b).2 = true)) (h1 : textsB a b = true) : cmpP a b = (Go.Lib.compareBytes a.x b.x, true) := by unfold cmpP; rw [if_neg h, if_pos h1]
theorem cmpP_bool {a b : TermL} (h : ¬ ((ofP a).2 = true ∧ (ofP b).2 = true)) (h1 : ¬ textsB a b = true) (h2 : boolB a = true ∧ boolB b = true) : cmpP a b = (onZ (decide (a.x = txT)) - onZ (decide (b.x = txT)), true) := by unfold cmpP; rw [if_neg h, if_neg h1, if_pos h2]
theorem cmpP_no {a b : TermL} (h : ¬ ((ofP a).2 = true ∧ (ofP b).2 = true)) (h1 : ¬ textsB a b = true) (h2 : ¬ (boolB a = true ∧ boolB b = true)) : cmpP a b = (0, false) := by unfold cmpP; rw [if_neg h, if_neg h1, if_neg h2]
theorem bool_tx {a : TermL} (h : boolB a = true) : a.k = 2 ∧ a.y = tyB ∧ (a.x = txT ∨ a.x = txF) := by
  unfold boolB at h
  simpa only [Bool.and_eq_true, Bool.or_eq_true, decide_eq_true_eq] using h
theorem bool_cmp {a b : TermL} (ha : boolB a = true) (hb : boolB b = true) : Go.Lib.compareBytes a.x b.x = onZ (decide (a.x = txT)) - onZ (decide (b.x = txT)) := by
  obtain ⟨_, _, h1⟩ := bool_tx ha
  obtain ⟨_, _, h2⟩ := bool_tx hb
  rcases h1 with h1 | h1 <;> rcases h2 with h2 | h2 <;> rw [h1, h2] <;> rfl
theorem onZ_dec (b : Bool) : (decide (onZ b = 1)) = b := by cases b <;> rfl
theorem truthZ_bool {t : TermL} (h : boolB t = true) : truthZ t = onZ (decide (t.x = txT)) := by unfold truthZ; rw [if_pos h]
theorem truthZ_num {t : TermL} (h : ¬ boolB t = true) (h1 : (ofP t).2 = true) : truthZ t = onZ (!decide ((ofP t).1.v = 0)) := by unfold truthZ; rw [if_neg h, if_pos h1]
theorem truthZ_text {t : TermL} (h : ¬ boolB t = true) (h1 : ¬ (ofP t).2 = true) (h2 : t.k = 2 ∧ (t.y = [] ∨ t.y = tyS)) : truthZ t = onZ (!t.x.isEmpty) := by unfold truthZ; rw [if_neg h, if_neg h1, if_pos h2]
theorem truthZ_no {t : TermL} (h : ¬ boolB t = true) (h1 : ¬ (ofP t).2 = true) (h2 : ¬ (t.k = 2 ∧ (t.y = [] ∨ t.y = tyS))) : truthZ t = -1 := by unfold truthZ; rw [if_neg h, if_neg h1, if_neg h2]
theorem of_kind {t : TermL} (h : (ofP t).2 = true) : t.k = 2 ∧ t.z = [] ∧ (t.y = tyIL ∨ t.y = tyDL) := by
  unfold ofP at h
  split at h
  · rename_i k
    refine ⟨k.1, k.2, ?_⟩
    split at h
    · rename_i k; exact .inl k
    · split at h
      · rename_i k; exact .inr k
      · cases h
  · cases h
theorem of_type {t : TermL} (h1 : ¬ t.y = tyIL) (h2 : ¬ t.y = tyDL) : ofP t = (Nm.noNum, false) := of_no (by
  cases h : (ofP t).2 with
  | false => rfl
  | true => rcases (of_kind h).2.2 with e | e
            · exact absurd e h1
            · exact absurd e h2)

end Go.Proofs.YtdnfaoanaehjhaaGreatDoor

/- Small things for the walks of layer 10: a text held against those that types and truths have; the box of a term. -/
namespace Go.Proofs.YtdnfaoanaehjhaaGreatDoor
open Go.RowKit

theorem eqd (a b : List UInt8) : ((bs a).toList == b) = decide (a = b) := by
  rw [bs_toList, Bool.eq_iff_iff]; simp
theorem eqS (y : List UInt8) : ((bs y).toList == [104, 116, 116, 112, 58, 47, 47, 119, 119, 119, 46, 119, 51, 46, 111, 114, 103, 47, 50, 48, 48, 49, 47, 88, 77, 76, 83, 99, 104, 101, 109, 97, 35, 115, 116, 114, 105, 110, 103]) = decide (y = tyS) := eqd y tyS
theorem eqB (y : List UInt8) : ((bs y).toList == [104, 116, 116, 112, 58, 47, 47, 119, 119, 119, 46, 119, 51, 46, 111, 114, 103, 47, 50, 48, 48, 49, 47, 88, 77, 76, 83, 99, 104, 101, 109, 97, 35, 98, 111, 111, 108, 101, 97, 110]) = decide (y = tyB) := eqd y tyB
theorem eqI (y : List UInt8) : ((bs y).toList == [104, 116, 116, 112, 58, 47, 47, 119, 119, 119, 46, 119, 51, 46, 111, 114, 103, 47, 50, 48, 48, 49, 47, 88, 77, 76, 83, 99, 104, 101, 109, 97, 35, 105, 110, 116, 101, 103, 101, 114]) = decide (y = tyIL) := eqd y tyIL
theorem eqD (y : List UInt8) : ((bs y).toList == [104, 116, 116, 112, 58, 47, 47, 119, 119, 119, 46, 119, 51, 46, 111, 114, 103, 47, 50, 48, 48, 49, 47, 88, 77, 76, 83, 99, 104, 101, 109, 97, 35, 100, 101, 99, 105, 109, 97, 108]) = decide (y = tyDL) := eqd y tyDL
theorem eqT (x : List UInt8) : ((bs x).toList == [116, 114, 117, 101]) = decide (x = txT) := eqd x txT
theorem eqF (x : List UInt8) : ((bs x).toList == [102, 97, 108, 115, 101]) = decide (x = txF) := eqd x txF
theorem eqN (x : List UInt8) : (bs x).toList.isEmpty = x.isEmpty := by rw [bs_toList]
theorem emp_dec (x : List UInt8) : x.isEmpty = decide (x = []) := by cases x <;> rfl

theorem SI : tyS ≠ tyIL := by decide
theorem SD : tyS ≠ tyDL := by decide
theorem SB : tyS ≠ tyB := by decide
theorem BI : tyB ≠ tyIL := by decide
theorem BD : tyB ≠ tyDL := by decide
theorem ID : tyIL ≠ tyDL := by decide
theorem IB : tyIL ≠ tyB := by decide
theorem DB : tyDL ≠ tyB := by decide
theorem TF : txT ≠ txF := by decide
/- the six sorts of types -/
theorem type_cases (y : List UInt8) : y = [] ∨ y = tyS ∨ y = tyB ∨ y = tyIL ∨ y = tyDL ∨ (y ≠ [] ∧ y ≠ tyS ∧ y ≠ tyB ∧ y ≠ tyIL ∧ y ≠ tyDL) := by
  by_cases h0 : y = []
  · exact .inl h0
  by_cases h1 : y = tyS
  · exact .inr (.inl h1)
  by_cases h2 : y = tyB
  · exact .inr (.inr (.inl h2))
  by_cases h3 : y = tyIL
  · exact .inr (.inr (.inr (.inl h3)))
  by_cases h4 : y = tyDL
  · exact .inr (.inr (.inr (.inr (.inl h4))))
  exact .inr (.inr (.inr (.inr (.inr ⟨h0, h1, h2, h3, h4⟩))))

/- what is no error has texts that may be -/
def SzV (v : VL) : Prop := ∀ s, v = some s → s.ok
theorem sz_none : SzV none := fun _ h => by cases h
theorem sz_some {t : TermL} (h : t.ok) : SzV (some t) := fun s e => by cases e; exact h
theorem noTerm_ok : noTerm.ok := ⟨Nat.zero_le _, Nat.zero_le _, Nat.zero_le _⟩
theorem un_ok {v : VL} (h : SzV v) : (unV v).ok := by
  cases v with
  | none => exact noTerm_ok
  | some t => exact h t rfl
theorem lit_ok {x y : List UInt8} (hx : x.length ≤ maxLen) (hy : y.length ≤ maxLen) : (litT x y).ok := ⟨hx, hy, Nat.zero_le _⟩
theorem truth_ok (b : Bool) : (truthT b).ok := by
  have e : (4 : Nat) ≤ maxLen ∧ 5 ≤ maxLen ∧ 40 ≤ maxLen := by unfold maxLen; omega
  cases b
  · exact lit_ok e.2.1 e.2.2
  · exact lit_ok e.1 e.2.2
theorem sz_truth (b : Bool) : SzV (trueV b) := sz_some (truth_ok b)
theorem termV_eta (t : TermL) : t.v = .agg #[.int .i64 t.k, .string (bs t.x), .string (bs t.y), .string (bs t.z)] := rfl

end Go.Proofs.YtdnfaoanaehjhaaGreatDoor

/- The number that a literal is: package number's Of, for every term. -/
namespace Go.Proofs.YtdnfaoanaehjhaaGreatDoor
open Go.RowKit

abbrev GoodN := Nm.Good
def ofR (t : TermL) : Value := Nm.readRet (ofP t)
theorem two_gone {w w1 : World} {o o2 : Obj} (h1 : Below ((w.alloc o).alloc o2).heap.size ((w.alloc o).alloc o2) w1) : Below w.heap.size w w1 := ((box_below w o).alloc (by simp) o2).trans (h1.mono (by simp; omega))
theorem two_size {w w1 : World} {o o2 : Obj} (h1 : Below ((w.alloc o).alloc o2).heap.size ((w.alloc o).alloc o2) w1) : w.heap.size + 1 < w1.heap.size := by have := h1.size; simp at this; omega

set_option maxRecDepth 100000 in
set_option maxHeartbeats 2000000 in
theorem Of_calls (t : TermL) (ht : t.ok) (w : World) (hg : GoodN w) :
    Calls Tryz.prog 108 #[t.v] w fun e w' => e = .returned (ofR t) ∧ Below w.heap.size w w' := by
  have HC : Hid (∀ W, Calls Tryz.prog 91 #[.agg #[.int .i64 t.k, .string (bs t.x), .string (bs t.y), .string (bs t.z)]] W fun e w' => e = .returned (.int .i64 (formZ (rightL t.k t.x t.y t.z))) ∧ Below W.heap.size W w') := Lib.hid fun W => Check_calls t.k (bs t.x) (bs t.y) (bs t.z) W ht.1 ht.2.1 ht.2.2
  have HR : Hid (∀ d W, GoodN W → Calls Tryz.prog 122 #[.string (bs t.x), .bool d] W fun e w' => e = .returned (Nm.readRet (Nm.readL t.x d)) ∧ Below W.heap.size W w') := Lib.hid fun d W hW => Nm.Read_calls (bs t.x) d W hW ht.1
  have HO := Lib.hid (show ofR t = Nm.readRet (ofQ t) by unfold ofR; rw [of_is])
  have HG := Lib.hid hg
  clear ht hg
  obtain ⟨k, x, y, z⟩ := t
  dsimp only at HC HR
  simp only [TermL.v]
  cases hr : rightL k x y z with
  | false =>
    have HE := Lib.hid (HO.out.trans (show Nm.readRet (ofQ ⟨k, x, y, z⟩) = .tuple #[.agg #[.int .i64 0, .int .i64 0, .bool false], .int .i64 2] by unfold ofQ; rw [if_neg (by rw [hr]; simp)]; rfl))
    rw [hr, show formZ false = 2 from rfl] at HC
    clear hr HO
    go_enter Tryz.func108, Tryz.ntmps108
    go_wp2_with fail
    refine (HC.out _).mono ?_
    rintro e w1 ⟨rfl, hb1⟩
    obtain ⟨hc, hf⟩ := bcell hb1
    have hz := two_size hb1
    have HB1 := Lib.hid (two_gone hb1)
    clear hb1
    go_wp2
    refine bodyPost_ret (v := .tuple #[.agg #[.int .i64 0, .int .i64 0, .bool false], .int .i64 2]) (by simp [results, Tryz.results108, hc, go_sem]) rfl ⟨by rw [HE.out], ?_⟩
    repeat (with_reducible (first | exact HB1.out | refine Below.setCell ?_ (by simp) _))
  | true =>
    rw [hr, show formZ true = 0 from rfl] at HC
    have gI := eqI y
    have gD := eqD y
    by_cases hI : y = tyIL
    · have HE := Lib.hid (HO.out.trans (show Nm.readRet (ofQ ⟨k, x, y, z⟩) = Nm.readRet (Nm.readL x false) by unfold ofQ; rw [if_pos hr, if_pos hI]))
      rw [decide_eq_true hI] at gI
      have HR1 := Lib.hid (fun W hW => HR.out false W hW)
      clear gD hr HO hI HR
      obtain ⟨⟨⟨v, s, d⟩, b⟩, hp⟩ : ∃ p, Nm.readL x false = p := ⟨_, rfl⟩
      rw [hp] at HE HR1
      clear hp
      simp only [Nm.readRet, Nm.NumL.val] at HE HR1
      go_enter Tryz.func108, Tryz.ntmps108
      go_wp2_with fail
      refine (HC.out _).mono ?_
      rintro e w1 ⟨rfl, hb1⟩
      obtain ⟨hc, hf⟩ := bcell hb1
      have hz := two_size hb1
      have HG1 := Lib.hid (((HG.out.alloc _).alloc _).on hb1)
      have HB1 := Lib.hid hb1
      clear hb1
      go_wp2_with fail
      refine (HR1.out _ HG1.out).mono ?_
      rintro e w2 ⟨rfl, hb2⟩
      have HB2 := bnext HB1.out hb2
      clear hc hf hz hb2
      obtain ⟨hc, hf⟩ := bcell HB2
      have hz := two_size HB2
      replace HB2 := Lib.hid (two_gone HB2)
      clear HB1
      go_wp2
      refine bodyPost_ret (v := .tuple #[.agg #[.int .i64 v, .int .i64 s, .bool d], .int .i64 (Nm.errZ b)]) (by simp [results, Tryz.results108, hc, go_sem]) rfl ⟨by rw [HE.out], ?_⟩
      repeat (with_reducible (first | exact HB2.out | refine Below.setCell ?_ (by simp) _))
    · rw [decide_eq_false hI] at gI
      by_cases hD : y = tyDL
      · have HE := Lib.hid (HO.out.trans (show Nm.readRet (ofQ ⟨k, x, y, z⟩) = Nm.readRet (Nm.readL x true) by unfold ofQ; rw [if_pos hr, if_neg hI, if_pos hD]))
        rw [decide_eq_true hD] at gD
        have HR1 := Lib.hid (fun W hW => HR.out true W hW)
        clear hr HO hI hD HR
        obtain ⟨⟨⟨v, s, d⟩, b⟩, hp⟩ : ∃ p, Nm.readL x true = p := ⟨_, rfl⟩
        rw [hp] at HE HR1
        clear hp
        simp only [Nm.readRet, Nm.NumL.val] at HE HR1
        go_enter Tryz.func108, Tryz.ntmps108
        go_wp2_with fail
        refine (HC.out _).mono ?_
        rintro e w1 ⟨rfl, hb1⟩
        obtain ⟨hc, hf⟩ := bcell hb1
        have hz := two_size hb1
        have HG1 := Lib.hid (((HG.out.alloc _).alloc _).on hb1)
        have HB1 := Lib.hid hb1
        clear hb1
        go_wp2_with fail
        refine (HR1.out _ HG1.out).mono ?_
        rintro e w2 ⟨rfl, hb2⟩
        have HB2 := bnext HB1.out hb2
        clear hc hf hz hb2
        obtain ⟨hc, hf⟩ := bcell HB2
        have hz := two_size HB2
        replace HB2 := Lib.hid (two_gone HB2)
        clear HB1
        go_wp2
        refine bodyPost_ret (v := .tuple #[.agg #[.int .i64 v, .int .i64 s, .bool d], .int .i64 (Nm.errZ b)]) (by simp [results, Tryz.results108, hc, go_sem]) rfl ⟨by rw [HE.out], ?_⟩
        repeat (with_reducible (first | exact HB2.out | refine Below.setCell ?_ (by simp) _))
      · have HE := Lib.hid (HO.out.trans (show Nm.readRet (ofQ ⟨k, x, y, z⟩) = .tuple #[.agg #[.int .i64 0, .int .i64 0, .bool false], .int .i64 2] by unfold ofQ; rw [if_pos hr, if_neg hI, if_neg hD]; rfl))
        rw [decide_eq_false hD] at gD
        clear hr HO hI hD HR
        go_enter Tryz.func108, Tryz.ntmps108
        go_wp2_with fail
        refine (HC.out _).mono ?_
        rintro e w1 ⟨rfl, hb1⟩
        obtain ⟨hc, hf⟩ := bcell hb1
        have hz := two_size hb1
        have HB1 := Lib.hid (two_gone hb1)
        clear hb1
        go_wp2
        refine bodyPost_ret (v := .tuple #[.agg #[.int .i64 0, .int .i64 0, .bool false], .int .i64 2]) (by simp [results, Tryz.results108, hc, go_sem]) rfl ⟨by rw [HE.out], ?_⟩
        repeat (with_reducible (first | exact HB1.out | refine Below.setCell ?_ (by simp) _))

end Go.Proofs.YtdnfaoanaehjhaaGreatDoor
