/- A number made of a value and a scale, by package number and by the document: the same, for every value and every scale up to 12. -/
import Derived.Test.YtdoagbengfdcgaaDoorNumCut
import Derived.Deep.RegionWith
namespace Go.Proofs.YtdoagbengfdcgaaDoor
open Go.RowKit

/- a number and its mark as the results of a call -/
def NumL.ret (p : NumL × Bool) : Value := .tuple #[p.1.val, .bool p.2]

theorem madeL_no (v : Int) (s : Nat) (d : Bool) (h : boundZ (cutZ v s).1 = false) : madeL v s d = (noNum, false) := by unfold madeL; rw [if_neg (by rw [h]; simp)]
theorem madeL_yes (v : Int) (s : Nat) (d : Bool) (h : boundZ (cutZ v s).1 = true) : madeL v s d = (⟨(cutZ v s).1, (cutZ v s).2, d⟩, true) := by unfold madeL; rw [if_pos h]
theorem cut_le (v : Int) (s : Nat) : (cutZ v s).2 ≤ 4 := Nat.le_trans (strip_le _ _) (Nat.min_le_right _ _)

set_option maxHeartbeats 1000000 in
theorem made_calls (v : Int) (s : Nat) (d : Bool) (w : World) (hg : Good w) (hs : s ≤ 12) (h1 : -9223372036854775807 ≤ v) (h2 : v ≤ 9223372036854775807) :
    Calls Tryd.prog 34 #[.int .i64 v, .int .i64 s, .bool d] w fun e w' => e = .returned (NumL.ret (madeL v s d)) ∧ Below w.heap.size w w' := by
  have E : boundZ (cutZ v s).1 = true ∨ boundZ (cutZ v s).1 = false := by cases boundZ (cutZ v s).1 <;> simp
  have hcut : ∀ o, Calls Tryd.prog 46 #[.int .i64 v, .int .i64 s] (w.alloc o) fun e w' => e = .returned (.tuple #[.int .i64 (cutZ v s).1, .int .i64 (cutZ v s).2]) ∧ w' = w.alloc o := fun o => cutDown_calls v s (w.alloc o) (hg.alloc o) hs h1 h2
  have HC := Lib.hid hcut
  clear hcut
  rcases E with hb | hb
  · have HM := Lib.hid (madeL_yes v s d hb)
    have HB := Lib.hid hb
    clear hb
    generalize cutZ v s = p at HC HB HM
    obtain ⟨x, k⟩ := p
    simp only at HB HM
    go_enter Tryd.func34, Tryd.ntmps34
    go_wp2_with (first | (go_at_call 46; refine (HC.out _).mono ?_; rintro e w' ⟨rfl, rfl⟩) | (go_at_call 41; refine (bounded_calls _ _).mono ?_; rintro e w' ⟨rfl, rfl⟩; rw [HB.out]))
    refine bodyPost_ret (v := .tuple #[.agg #[.int .i64 x, .int .i64 k, .bool d], .bool true]) (by simp [results, Tryd.results34, go_sem]) rfl ⟨by rw [HM.out]; rfl, ?_⟩
    exact box_below _ _
  · have HM := Lib.hid (madeL_no v s d hb)
    have HB := Lib.hid hb
    clear hb
    generalize cutZ v s = p at HC HB HM
    obtain ⟨x, k⟩ := p
    simp only at HB HM
    go_enter Tryd.func34, Tryd.ntmps34
    go_wp2_with (first | (go_at_call 46; refine (HC.out _).mono ?_; rintro e w' ⟨rfl, rfl⟩) | (go_at_call 41; refine (bounded_calls _ _).mono ?_; rintro e w' ⟨rfl, rfl⟩; rw [HB.out]))
    refine bodyPost_ret (v := .tuple #[.agg #[.int .i64 0, .int .i64 0, .bool false], .bool false]) (by simp [results, Tryd.results34, go_sem]) rfl ⟨by rw [HM.out]; rfl, ?_⟩
    exact box_below _ _

/- what a reckoning comes to: a number, or that there is none -/
def overZ (b : Bool) : Int := if b then 0 else 5
def reckL (p : NumL × Bool) : Value := .tuple #[p.1.val, .int .i64 (overZ p.2)]
theorem madeL_false {v : Int} {s : Nat} {d : Bool} (h : (madeL v s d).2 = false) : madeL v s d = (noNum, false) := by
  unfold madeL at h ⊢
  split at h
  · cases h
  · rename_i g; rw [if_neg g]

set_option maxHeartbeats 1000000 in
theorem reckoned_calls (v : Int) (s : Nat) (d : Bool) (w : World) (hg : Good w) (hs : s ≤ 12) (h1 : -9223372036854775807 ≤ v) (h2 : v ≤ 9223372036854775807) :
    Calls Tryd.prog 40 #[.int .i64 v, .int .i64 s, .bool d] w fun e w' => e = .returned (reckL (madeL v s d)) ∧ Below w.heap.size w w' := by
  have hm : ∀ W, Good W → Calls Tryd.prog 34 #[.int .i64 v, .int .i64 s, .bool d] W fun e w' => e = .returned (NumL.ret (madeL v s d)) ∧ Below W.heap.size W w' := fun W hW => made_calls v s d W hW hs h1 h2
  have HM := Lib.hid hm
  have HF := Lib.hid (@madeL_false v s d)
  have HG := Lib.hid hg
  clear hm hg
  generalize madeL v s d = p at HM HF
  obtain ⟨⟨x, k, d'⟩, b⟩ := p
  go_enter Tryd.func40, Tryd.ntmps40
  go_wp2_with fail
  refine (HM.out _ (HG.out.alloc _)).mono ?_
  rintro e w1 ⟨rfl, hb1⟩
  simp only [NumL.ret, NumL.val]
  obtain ⟨hc, hf⟩ := bcell hb1
  have hz : w.heap.size < w1.heap.size := by have := hb1.size; simp at this; omega
  cases b with
  | true =>
    go_wp2
    refine bodyPost_ret (v := .tuple #[.agg #[.int .i64 x, .int .i64 k, .bool d'], .int .i64 0]) (by simp [results, Tryd.results40, hc, hz, go_sem]) rfl ⟨rfl, ?_⟩
    exact ((((one_box hb1).setCell (Nat.le_refl _) _).setCell (Nat.le_refl _) _).setCell (Nat.le_refl _) _).alloc (by simp; omega) _
  | false =>
    have e := HF.out rfl
    simp only [noNum, Prod.mk.injEq, NumL.mk.injEq, and_true] at e
    obtain ⟨rfl, rfl, rfl⟩ := e
    go_wp2
    refine bodyPost_ret (v := .tuple #[.agg #[.int .i64 0, .int .i64 0, .bool false], .int .i64 5]) (by simp [results, Tryd.results40, hc, hz, go_sem]) rfl ⟨rfl, ?_⟩
    exact ((((one_box hb1).setCell (Nat.le_refl _) _).setCell (Nat.le_refl _) _).setCell (Nat.le_refl _) _).alloc (by simp; omega) _

end Go.Proofs.YtdoagbengfdcgaaDoor
