/- NumKit, NumRight, NumCut, NumMade, put together. -/
import Derived.Test.YtkfemnjblbnclaaGreatDoorGPlain
import Derived.Test.YtkfemnjblbnclaaGreatDoorProg
import Derived.WalkKit
import Derived.Lib.Hide
import Derived.Lib.LaidTab
import Derived.Lib.ItoaMem
import Derived.WalkSpells
import Derived.WalkLawsBesides
import Derived.BigQuiet
import Derived.Deep.QuietTactic
import Derived.RegionTactic
import Derived.ChangeAlike
import Derived.Deep.RegionWith

/- The world that every function here finds: the two tables read as they are laid; what is below stays; the small tests. -/
namespace Go.Proofs.YtkfemnjblbnclaaGreatDoor.Nm
open Go.RowKit

theorem box_below (w : World) (o : Obj) : Below w.heap.size w (w.alloc o) := (Below.refl _ _).alloc (Nat.le_refl _) _
theorem two_alloc (w : World) (o o2 : Obj) : Below w.heap.size w ((w.alloc o).alloc o2) := (box_below w o).alloc (by simp) _
theorem bcell {W w1 : World} (hb : Below W.heap.size W w1) : (∀ b o, b < W.heap.size → w1.cell? ⟨b, o, none⟩ = W.cell? ⟨b, o, none⟩) ∧ (∀ b o, b < W.heap.size → w1.frozen? ⟨b, o, none⟩ = W.frozen? ⟨b, o, none⟩) :=
  ⟨fun b o h => hb.cell (p := ⟨b, o, none⟩) h, fun b o h => hb.frozen (p := ⟨b, o, none⟩) h⟩
theorem bnext {W w1 w2 : World} (h1 : Below W.heap.size W w1) (h2 : Below w1.heap.size w1 w2) : Below W.heap.size W w2 := h1.trans (h2.mono h1.size)
theorem one_box {w w1 : World} {o : Obj} (h1 : Below (w.alloc o).heap.size (w.alloc o) w1) : Below w.heap.size w w1 :=
  (box_below w o).trans (h1.mono (by simp))
theorem below_drewN {B : Nat} {a w : World} (h : Below B a w) (n : Nat) : Below B a (w.drewN n) := ⟨h.os, h.tape, h.output, h.size, h.block⟩

theorem quiet_add_same {P : Program} {f : FuncId} {args : Array Value} {w : World} {a n : Nat} {v : Value}
    (h : Calls P f args (w.drewN (a + n)) fun e w' => e = .returned v ∧ w' = w.drewN (a + n)) :
    Calls P f args (w.drewN (a + n)) fun e w'' => e = .returned v ∧ ∃ m, w'' = w.drewN (a + m) :=
  h.mono fun _ _ ⟨he, hm⟩ => ⟨he, n, hm⟩

/- the two tables -/
def powTab : List Int := [1, 10, 100, 1000, 10000, 100000, 1000000, 10000000, 100000000]
structure Good (w : World) : Prop where
  pow : Lib.TabIs Tryz.prog w "legation/number.powers" .i64 powTab
  dec : Lib.TabIs Tryz.prog w "internal/strconv.uint64pow10" .u64 Lib.pow10Tab
  big : 0 < w.heap.size
  big2 : 2 < w.heap.size

theorem gPow : Tryz.prog.globalNamed "legation/number.powers" = some 0 := by kernel_rfl
theorem gDec : Tryz.prog.globalNamed "internal/strconv.uint64pow10" = some 2 := by kernel_rfl

theorem var?_below {P : Program} {B g : Nat} {W W' : World} {n : String} {cs : Array Value} (h : Below B W W') (hg : P.globalNamed n = some g) (hgB : g < B) (hv : W.var? P n = some cs) : W'.var? P n = some cs := by
  unfold World.var? at hv ⊢
  simp only [hg, Option.bind_some] at hv ⊢
  rw [h.block g hgB]
  exact hv

theorem Good.on {w w' : World} (h : Good w) (hb : Below w.heap.size w w') : Good w' :=
  ⟨var?_below hb gPow h.big h.pow, var?_below hb gDec h.big2 h.dec, Nat.lt_of_lt_of_le h.big hb.size, Nat.lt_of_lt_of_le h.big2 hb.size⟩
theorem Good.alloc {w : World} (h : Good w) (o : Obj) : Good (w.alloc o) := h.on (box_below w o)
theorem Good.drew {w : World} (h : Good w) : Good w.drew := h.on (Below.refl _ _).drew
theorem Good.drewN {w : World} (h : Good w) (n : Nat) : Good (w.drewN n) := h.on (below_drewN (Below.refl _ _) n)

theorem Good.cell {w : World} (h : Good w) (i : Nat) (hi : i < 9) : w.cell? ⟨0, i, none⟩ = some (.int .i64 (powTab.getD i 0)) := by
  rw [h.pow.cell gPow i (by simpa [powTab] using hi)]

end Go.Proofs.YtkfemnjblbnclaaGreatDoor.Nm

/- Which numbers are right: package number's own test and the document's, for every number. -/
namespace Go.Proofs.YtkfemnjblbnclaaGreatDoor.Nm
open Go.RowKit

set_option maxHeartbeats 400000 in
theorem bounded_calls (v : Int) (w : World) :
    Calls Tryz.prog 105 #[.int .i64 v] w fun e w' => e = .returned (.bool (boundZ v)) ∧ w' = w := by
  by_cases h1 : -999999999 ≤ v <;> by_cases h2 : v ≤ 999999999 <;> go_enter Tryz.func105, Tryz.ntmps105 <;> go_wp2 <;> go_ret <;> exact ⟨by simp [boundZ, *], rfl⟩

theorem right_cases (v s : Int) (d : Bool) : (boundZ v = false ∧ rightZ v s d = false) ∨ (boundZ v = true ∧ ¬ 0 ≤ s ∧ rightZ v s d = false) ∨ (boundZ v = true ∧ 0 ≤ s ∧ ¬ s ≤ 4 ∧ rightZ v s d = false) ∨
    (boundZ v = true ∧ 0 ≤ s ∧ s ≤ 4 ∧ s = 0 ∧ rightZ v s d = true) ∨ (boundZ v = true ∧ 1 ≤ s ∧ s ≤ 4 ∧ (s == 0) = false ∧ d = false ∧ rightZ v s d = false) ∨
    (boundZ v = true ∧ 1 ≤ s ∧ s ≤ 4 ∧ (s == 0) = false ∧ d = true ∧ (v.tmod 10 != 0) = true ∧ rightZ v s d = true) ∨ (boundZ v = true ∧ 1 ≤ s ∧ s ≤ 4 ∧ (s == 0) = false ∧ d = true ∧ (v.tmod 10 != 0) = false ∧ rightZ v s d = false) := by
  cases hb : boundZ v
  · left; simp [rightZ, hb]
  by_cases h0 : 0 ≤ s
  · by_cases h4 : s ≤ 4
    · by_cases hz : s = 0
      · right; right; right; left; simp [rightZ, hb, hz]
      · have h1 : 1 ≤ s := by omega
        cases d
        · right; right; right; right; left; simp [rightZ, hb, hz, h1, h4]
        · by_cases hm : v.tmod 10 = 0
          · right; right; right; right; right; right; simp [rightZ, hb, hz, h1, h4, hm]
          · right; right; right; right; right; left; simp [rightZ, hb, hz, h1, h4, hm]; omega
    · right; right; left; simp [rightZ, h0, h4]
  · right; left; simp [rightZ, h0]

set_option maxHeartbeats 1000000 in
theorem right_calls (v s : Int) (d : Bool) (w : World) :
    Calls Tryz.prog 79 #[.agg #[.int .i64 v, .int .i64 s, .bool d]] w fun e w' => e = .returned (.bool (rightZ v s d)) ∧ Below w.heap.size w w' := by
  rcases right_cases v s d with ⟨hb, hr⟩ | ⟨hb, h1, hr⟩ | ⟨hb, h1, h2, hr⟩ | ⟨hb, h1, h2, hz, hr⟩ | ⟨hb, h1, h2, hs, hd, hr⟩ | ⟨hb, h1, h2, hs, hd, hm, hr⟩ | ⟨hb, h1, h2, hs, hd, hm, hr⟩
  all_goals
    have HB := Lib.hid hb
    have HR := Lib.hid hr
    clear hb hr
    try subst hz
    try subst hd
    go_enter Tryz.func79, Tryz.ntmps79
    go_wp2_with (go_at_call 105; refine (bounded_calls _ _).mono ?_; rintro e w' ⟨rfl, rfl⟩; rw [HB.out])
    go_ret
    exact ⟨ret_bool (by rw [HR.out]), box_below _ _⟩

def errZ (b : Bool) : Int := if b then 0 else 2

theorem bound_cases (v : Int) : (boundZ v = true ∧ ¬ v < -999999999 ∧ ¬ 999999999 < v) ∨ (boundZ v = false ∧ v < -999999999) ∨ (boundZ v = false ∧ ¬ v < -999999999 ∧ 999999999 < v) := by
  simp only [boundZ, decide_eq_true_eq, decide_eq_false_iff_not]
  omega

set_option maxHeartbeats 400000 in
theorem rTen_calls (k : Nat) (w : World) (hk : k ≤ 18) :
    Calls Tryz.prog 86 #[.int .i64 k] w fun e w' => e = .returned (.int .i64 (ten k)) ∧ w' = w := by
  have hpos : ∀ i : Nat, i ≤ 18 → 1 ≤ ten i ∧ ten i ≤ 1000000000000000000 := by decide
  have HP := Lib.hid hpos
  clear hpos
  go_enter Tryz.func86, Tryz.ntmps86
  go_wp2
  go_loop [3, 4] (fun n i => ∃ j : Nat, j ≤ k ∧ i = .int .i64 j ∧ n = .int .i64 (ten j)) (fun _ i => k - (intOf i).toNat)
  case atStart => exact ⟨0, Nat.zero_le _, rfl, rfl⟩
  case round =>
    obtain ⟨j, hj, rfl, rfl⟩ := hrel
    by_cases hlt : j < k
    · obtain ⟨T, hT⟩ : ∃ T, ten j = T := ⟨_, rfl⟩
      have h1 : ten (j + 1) = 10 * T := by rw [← hT]; rfl
      have b2 : ten (j + 1) ≤ 1000000000000000000 := (HP.out (j + 1) (by omega)).2
      have b1 : 1 ≤ T := by rw [← hT]; exact (HP.out j (by omega)).1
      have b3 : 10 * T ≤ 1000000000000000000 := by omega
      have H1 := Lib.hid h1
      rw [hT]
      clear h1 b2 hT
      go_wp2
      go_round
      case rel => exact ⟨j + 1, by omega, by go_num, by rw [H1.out]; go_num⟩
      case measure => simp [intOf]; omega
    · go_wp2
      go_ret
      exact ⟨ret_int (by rw [show j = k by omega]), rfl⟩

end Go.Proofs.YtkfemnjblbnclaaGreatDoor.Nm

/- A value and a scale cut down, by package number (at one stroke by its table of powers) and by the document (a digit at a time): the same, for every value and every scale up to 12. -/
namespace Go.Proofs.YtkfemnjblbnclaaGreatDoor.Nm
open Go.RowKit

theorem strip_yes (k : Nat) (x : Int) (h : x.tmod 10 = 0) : strip (k + 1) x = strip k (x.tdiv 10) := by rw [strip, if_pos h]
theorem strip_no (k : Nat) (x : Int) (h : ¬ x.tmod 10 = 0) : strip (k + 1) x = (x, k + 1) := by rw [strip, if_neg h]
theorem ret_two {a b c d : Int} (h : a = c) (h' : b = d) : Ending.returned (.tuple #[.int .i64 a, .int .i64 b]) = .returned (.tuple #[.int .i64 c, .int .i64 d]) := by rw [h, h']
theorem ten_pos (k : Nat) : 1 ≤ ten k := by
  induction k with
  | zero => decide
  | succ k ih => show 1 ≤ 10 * ten k; omega
theorem pow_ten (k : Nat) (h : k < 9) : powTab.getD k 0 = ten k := by
  match k, h with
  | 0, _ => rfl
  | 1, _ => rfl
  | 2, _ => rfl
  | 3, _ => rfl
  | 4, _ => rfl
  | 5, _ => rfl
  | 6, _ => rfl
  | 7, _ => rfl
  | 8, _ => rfl
  | k + 9, h => omega

set_option maxHeartbeats 1000000 in
theorem cutDown_calls (v : Int) (s : Nat) (w : World) (hg : Good w) (hs : s ≤ 12) (h1 : -9223372036854775807 ≤ v) (h2 : v ≤ 9223372036854775807) :
    Calls Tryz.prog 130 #[.int .i64 v, .int .i64 s] w fun e w' => e = .returned (.tuple #[.int .i64 (cutZ v s).1, .int .i64 (cutZ v s).2]) ∧ w' = w := by
  obtain ⟨R, hR⟩ : ∃ R, cutZ v s = R := ⟨_, rfl⟩
  rw [hR]
  by_cases h4 : s ≤ 4
  · have hR' : strip s v = R := by rw [← hR]; unfold cutZ; rw [show min s 4 = s by omega, show s - 4 = 0 by omega]; simp [ten]
    have HR := Lib.hid hR'
    clear hR hR'
    go_enter Tryz.func130, Tryz.ntmps130
    go_wp2
    go_loop [0, 1] (fun a b => ∃ (x : Int) (k : Nat), k ≤ 4 ∧ -9223372036854775807 ≤ x ∧ x ≤ 9223372036854775807 ∧ a = .int .i64 x ∧ b = .int .i64 k ∧ Hid (strip k x = R)) (fun _ b => (intOf b).toNat)
    case atStart => exact ⟨v, s, h4, h1, h2, rfl, rfl, HR⟩
    case round =>
      obtain ⟨x, k, hk, hx1, hx2, rfl, rfl, HX⟩ := hrel
      cases k with
      | zero =>
        go_wp2
        go_ret2
        exact ⟨by rw [← HX.out]; rfl, rfl⟩
      | succ k =>
        have hq := tdiv_le x 10 (by omega) 9223372036854775807 hx1 hx2
        obtain ⟨q1, q2⟩ := hq
        by_cases hm : x.tmod 10 = 0
        · have g : (x.tmod 10 == 0) = true := beq_iff_eq.2 hm
          have HS := Lib.hid (strip_yes k x hm)
          clear hm
          go_wp2
          go_round
          case rel => exact ⟨x.tdiv 10, k, by omega, q1, q2, rfl, by go_num, Lib.hid (by rw [← HS.out, HX.out])⟩
          case measure => simp [intOf]
        · have g : (x.tmod 10 == 0) = false := beq_eq_false_iff_ne.2 hm
          have HS := Lib.hid (strip_no k x hm)
          clear hm
          go_wp2
          go_ret2
          exact ⟨by rw [← HX.out, HS.out]; rfl, rfl⟩
  · have hc := hg.cell (s - 4) (by omega)
    rw [pow_ten _ (by omega)] at hc
    have hR' : strip 4 (v.tdiv (ten (s - 4))) = R := by rw [← hR]; unfold cutZ; rw [show min s 4 = 4 by omega]
    have hp := ten_pos (s - 4)
    obtain ⟨T, hT⟩ : ∃ T, ten (s - 4) = T := ⟨_, rfl⟩
    rw [hT] at hc hR' hp
    have HR := Lib.hid hR'
    clear hR hR' hT
    have hq := tdiv_le v T hp 9223372036854775807 h1 h2
    obtain ⟨q1, q2⟩ := hq
    go_enter Tryz.func130, Tryz.ntmps130
    go_wp2
    go_loop [0, 1] (fun a b => ∃ (x : Int) (k : Nat), k ≤ 4 ∧ -9223372036854775807 ≤ x ∧ x ≤ 9223372036854775807 ∧ a = .int .i64 x ∧ b = .int .i64 k ∧ Hid (strip k x = R)) (fun _ b => (intOf b).toNat)
    case atStart => exact ⟨v.tdiv T, 4, by omega, q1, q2, rfl, rfl, HR⟩
    case round =>
      clear hc q1 q2 hp
      obtain ⟨x, k, hk, hx1, hx2, rfl, rfl, HX⟩ := hrel
      cases k with
      | zero =>
        go_wp2
        go_ret2
        exact ⟨by rw [← HX.out]; rfl, rfl⟩
      | succ k =>
        have hq := tdiv_le x 10 (by omega) 9223372036854775807 hx1 hx2
        obtain ⟨q1, q2⟩ := hq
        by_cases hm : x.tmod 10 = 0
        · have g : (x.tmod 10 == 0) = true := beq_iff_eq.2 hm
          have HS := Lib.hid (strip_yes k x hm)
          clear hm
          go_wp2
          go_round
          case rel => exact ⟨x.tdiv 10, k, by omega, q1, q2, rfl, by go_num, Lib.hid (by rw [← HS.out, HX.out])⟩
          case measure => simp [intOf]
        · have g : (x.tmod 10 == 0) = false := beq_eq_false_iff_ne.2 hm
          have HS := Lib.hid (strip_no k x hm)
          clear hm
          go_wp2
          go_ret2
          exact ⟨by rw [← HX.out, HS.out]; rfl, rfl⟩

end Go.Proofs.YtkfemnjblbnclaaGreatDoor.Nm

/- A number made of a value and a scale, by package number and by the document: the same, for every value and every scale up to 12. -/
namespace Go.Proofs.YtkfemnjblbnclaaGreatDoor.Nm
open Go.RowKit

/- a number and its mark as the results of a call -/
def NumL.ret (p : NumL × Bool) : Value := .tuple #[p.1.val, .bool p.2]

theorem madeL_no (v : Int) (s : Nat) (d : Bool) (h : boundZ (cutZ v s).1 = false) : madeL v s d = (noNum, false) := by unfold madeL; rw [if_neg (by rw [h]; simp)]
theorem madeL_yes (v : Int) (s : Nat) (d : Bool) (h : boundZ (cutZ v s).1 = true) : madeL v s d = (⟨(cutZ v s).1, (cutZ v s).2, d⟩, true) := by unfold madeL; rw [if_pos h]
theorem cut_le (v : Int) (s : Nat) : (cutZ v s).2 ≤ 4 := Nat.le_trans (strip_le _ _) (Nat.min_le_right _ _)

set_option maxHeartbeats 1000000 in
theorem made_calls (v : Int) (s : Nat) (d : Bool) (w : World) (hg : Good w) (hs : s ≤ 12) (h1 : -9223372036854775807 ≤ v) (h2 : v ≤ 9223372036854775807) :
    Calls Tryz.prog 113 #[.int .i64 v, .int .i64 s, .bool d] w fun e w' => e = .returned (NumL.ret (madeL v s d)) ∧ Below w.heap.size w w' := by
  have E : boundZ (cutZ v s).1 = true ∨ boundZ (cutZ v s).1 = false := by cases boundZ (cutZ v s).1 <;> simp
  have hcut : ∀ o, Calls Tryz.prog 130 #[.int .i64 v, .int .i64 s] (w.alloc o) fun e w' => e = .returned (.tuple #[.int .i64 (cutZ v s).1, .int .i64 (cutZ v s).2]) ∧ w' = w.alloc o := fun o => cutDown_calls v s (w.alloc o) (hg.alloc o) hs h1 h2
  have HC := Lib.hid hcut
  clear hcut
  rcases E with hb | hb
  · have HM := Lib.hid (madeL_yes v s d hb)
    have HB := Lib.hid hb
    clear hb
    generalize cutZ v s = p at HC HB HM
    obtain ⟨x, k⟩ := p
    simp only at HB HM
    go_enter Tryz.func113, Tryz.ntmps113
    go_wp2_with (first | (go_at_call 130; refine (HC.out _).mono ?_; rintro e w' ⟨rfl, rfl⟩) | (go_at_call 105; refine (bounded_calls _ _).mono ?_; rintro e w' ⟨rfl, rfl⟩; rw [HB.out]))
    refine bodyPost_ret (v := .tuple #[.agg #[.int .i64 x, .int .i64 k, .bool d], .bool true]) (by simp [results, Tryz.results113, go_sem]) rfl ⟨by rw [HM.out]; rfl, ?_⟩
    exact box_below _ _
  · have HM := Lib.hid (madeL_no v s d hb)
    have HB := Lib.hid hb
    clear hb
    generalize cutZ v s = p at HC HB HM
    obtain ⟨x, k⟩ := p
    simp only at HB HM
    go_enter Tryz.func113, Tryz.ntmps113
    go_wp2_with (first | (go_at_call 130; refine (HC.out _).mono ?_; rintro e w' ⟨rfl, rfl⟩) | (go_at_call 105; refine (bounded_calls _ _).mono ?_; rintro e w' ⟨rfl, rfl⟩; rw [HB.out]))
    refine bodyPost_ret (v := .tuple #[.agg #[.int .i64 0, .int .i64 0, .bool false], .bool false]) (by simp [results, Tryz.results113, go_sem]) rfl ⟨by rw [HM.out]; rfl, ?_⟩
    exact box_below _ _

/- what a reckoning comes to: a number, or that there is none -/
def overZ (b : Bool) : Int := if b then 0 else 5
def reckL (p : NumL × Bool) : Value := .tuple #[p.1.val, .int .i64 (overZ p.2)]
theorem madeL_false {v : Int} {s : Nat} {d : Bool} (h : (madeL v s d).2 = false) : madeL v s d = (noNum, false) := by
  unfold madeL at h ⊢
  split at h
  · cases h
  · rename_i g; rw [if_neg g]

end Go.Proofs.YtkfemnjblbnclaaGreatDoor.Nm
