/- The statements' own helpers: is an answer the document's; which reckoning. -/
import Derived.Test.YtdoagbengfdcgaaDoorNumLive
namespace Go.Proofs.YtdoagbengfdcgaaDoor
open Go.RowKit

set_option maxHeartbeats 400000 in
theorem same_yes (x c : Int) (b : Bool) (why : Int) (w : World) :
    Calls Tryd.prog 18 #[.agg #[.int .i64 x, .int .i64 c, .bool b], .int .i64 0, .agg #[.int .i64 x, .int .i64 c, .bool b], .bool true, .int .i64 why] w fun e w' => e = .returned (.bool true) ∧ Below w.heap.size w w' := by
  go_enter Tryd.func18, Tryd.ntmps18
  go_wp2
  go_ret
  exact ⟨rfl, two_alloc _ _ _⟩
set_option maxHeartbeats 400000 in
theorem same_no (why : Int) (w : World) :
    Calls Tryd.prog 18 #[.agg #[.int .i64 0, .int .i64 0, .bool false], .int .i64 why, .agg #[.int .i64 0, .int .i64 0, .bool false], .bool false, .int .i64 why] w fun e w' => e = .returned (.bool true) ∧ Below w.heap.size w w' := by
  go_enter Tryd.func18, Tryd.ntmps18
  go_wp2
  go_ret
  exact ⟨rfl, two_alloc _ _ _⟩

set_option maxHeartbeats 1000000 in
theorem reckoned_Add (v s : Int) (d : Bool) (v' s' : Int) (d' : Bool) (x c : Int) (b : Bool) (n : Int) (w : World) (hg : Good w)
    (h : ∀ W, Good W → Calls Tryd.prog 23 #[.agg #[.int .i64 v, .int .i64 s, .bool d], .agg #[.int .i64 v', .int .i64 s', .bool d']] W fun e w' => e = .returned (.tuple #[.agg #[.int .i64 x, .int .i64 c, .bool b], .int .i64 n]) ∧ Below W.heap.size W w') :
    Calls Tryd.prog 19 #[.int .i64 1, .agg #[.int .i64 v, .int .i64 s, .bool d], .agg #[.int .i64 v', .int .i64 s', .bool d']] w fun e w' => e = .returned (.tuple #[.agg #[.int .i64 x, .int .i64 c, .bool b], .int .i64 n]) ∧ Below w.heap.size w w' := by
  have HO := Lib.hid h
  have HG := Lib.hid hg
  clear h hg
  go_enter Tryd.func19, Tryd.ntmps19
  go_wp2_with fail
  refine (HO.out _ ?_).mono ?_
  · exact ((HG.out.alloc _).alloc _).alloc _
  rintro e w1 ⟨rfl, hb⟩
  have hB : Below (boxed w 23 (.int .i64 v) (.int .i64 s) (.bool d) (.int .i64 v') (.int .i64 s') (.bool d') (.int .i64 0) (.int .i64 0) (.bool false)).heap.size (boxed w 23 (.int .i64 v) (.int .i64 s) (.bool d) (.int .i64 v') (.int .i64 s') (.bool d') (.int .i64 0) (.int .i64 0) (.bool false)) w1 := hb
  obtain ⟨c0, c1, c2, c3, c4, c5, ⟨c6, c7, c8⟩, c9⟩ := boxes hB
  go_wp2
  refine bodyPost_ret (v := .tuple #[.agg #[.int .i64 x, .int .i64 c, .bool b], .int .i64 n]) (by simp [results, Tryd.results19, *, go_sem]) rfl ⟨rfl, ?_⟩
  exact ((((boxed_below hB)).setCell (by simp; omega) _).setCell (by simp; omega) _).setCell (by simp; omega) _

set_option maxHeartbeats 1000000 in
theorem reckoned_Sub (v s : Int) (d : Bool) (v' s' : Int) (d' : Bool) (x c : Int) (b : Bool) (n : Int) (w : World) (hg : Good w)
    (h : ∀ W, Good W → Calls Tryd.prog 25 #[.agg #[.int .i64 v, .int .i64 s, .bool d], .agg #[.int .i64 v', .int .i64 s', .bool d']] W fun e w' => e = .returned (.tuple #[.agg #[.int .i64 x, .int .i64 c, .bool b], .int .i64 n]) ∧ Below W.heap.size W w') :
    Calls Tryd.prog 19 #[.int .i64 2, .agg #[.int .i64 v, .int .i64 s, .bool d], .agg #[.int .i64 v', .int .i64 s', .bool d']] w fun e w' => e = .returned (.tuple #[.agg #[.int .i64 x, .int .i64 c, .bool b], .int .i64 n]) ∧ Below w.heap.size w w' := by
  have HO := Lib.hid h
  have HG := Lib.hid hg
  clear h hg
  go_enter Tryd.func19, Tryd.ntmps19
  go_wp2_with fail
  refine (HO.out _ ?_).mono ?_
  · exact ((HG.out.alloc _).alloc _).alloc _
  rintro e w1 ⟨rfl, hb⟩
  have hB : Below (boxed w 23 (.int .i64 v) (.int .i64 s) (.bool d) (.int .i64 v') (.int .i64 s') (.bool d') (.int .i64 0) (.int .i64 0) (.bool false)).heap.size (boxed w 23 (.int .i64 v) (.int .i64 s) (.bool d) (.int .i64 v') (.int .i64 s') (.bool d') (.int .i64 0) (.int .i64 0) (.bool false)) w1 := hb
  obtain ⟨c0, c1, c2, c3, c4, c5, ⟨c6, c7, c8⟩, c9⟩ := boxes hB
  go_wp2
  refine bodyPost_ret (v := .tuple #[.agg #[.int .i64 x, .int .i64 c, .bool b], .int .i64 n]) (by simp [results, Tryd.results19, *, go_sem]) rfl ⟨rfl, ?_⟩
  exact ((((boxed_below hB)).setCell (by simp; omega) _).setCell (by simp; omega) _).setCell (by simp; omega) _

set_option maxHeartbeats 1000000 in
theorem reckoned_Mul (v s : Int) (d : Bool) (v' s' : Int) (d' : Bool) (x c : Int) (b : Bool) (n : Int) (w : World) (hg : Good w)
    (h : ∀ W, Good W → Calls Tryd.prog 24 #[.agg #[.int .i64 v, .int .i64 s, .bool d], .agg #[.int .i64 v', .int .i64 s', .bool d']] W fun e w' => e = .returned (.tuple #[.agg #[.int .i64 x, .int .i64 c, .bool b], .int .i64 n]) ∧ Below W.heap.size W w') :
    Calls Tryd.prog 19 #[.int .i64 3, .agg #[.int .i64 v, .int .i64 s, .bool d], .agg #[.int .i64 v', .int .i64 s', .bool d']] w fun e w' => e = .returned (.tuple #[.agg #[.int .i64 x, .int .i64 c, .bool b], .int .i64 n]) ∧ Below w.heap.size w w' := by
  have HO := Lib.hid h
  have HG := Lib.hid hg
  clear h hg
  go_enter Tryd.func19, Tryd.ntmps19
  go_wp2_with fail
  refine (HO.out _ ?_).mono ?_
  · exact ((HG.out.alloc _).alloc _).alloc _
  rintro e w1 ⟨rfl, hb⟩
  have hB : Below (boxed w 23 (.int .i64 v) (.int .i64 s) (.bool d) (.int .i64 v') (.int .i64 s') (.bool d') (.int .i64 0) (.int .i64 0) (.bool false)).heap.size (boxed w 23 (.int .i64 v) (.int .i64 s) (.bool d) (.int .i64 v') (.int .i64 s') (.bool d') (.int .i64 0) (.int .i64 0) (.bool false)) w1 := hb
  obtain ⟨c0, c1, c2, c3, c4, c5, ⟨c6, c7, c8⟩, c9⟩ := boxes hB
  go_wp2
  refine bodyPost_ret (v := .tuple #[.agg #[.int .i64 x, .int .i64 c, .bool b], .int .i64 n]) (by simp [results, Tryd.results19, *, go_sem]) rfl ⟨rfl, ?_⟩
  exact ((((boxed_below hB)).setCell (by simp; omega) _).setCell (by simp; omega) _).setCell (by simp; omega) _

set_option maxHeartbeats 1000000 in
theorem reckoned_Div (v s : Int) (d : Bool) (v' s' : Int) (d' : Bool) (x c : Int) (b : Bool) (n : Int) (w : World) (hg : Good w)
    (h : ∀ W, Good W → Calls Tryd.prog 36 #[.agg #[.int .i64 v, .int .i64 s, .bool d], .agg #[.int .i64 v', .int .i64 s', .bool d']] W fun e w' => e = .returned (.tuple #[.agg #[.int .i64 x, .int .i64 c, .bool b], .int .i64 n]) ∧ Below W.heap.size W w') :
    Calls Tryd.prog 19 #[.int .i64 4, .agg #[.int .i64 v, .int .i64 s, .bool d], .agg #[.int .i64 v', .int .i64 s', .bool d']] w fun e w' => e = .returned (.tuple #[.agg #[.int .i64 x, .int .i64 c, .bool b], .int .i64 n]) ∧ Below w.heap.size w w' := by
  have HO := Lib.hid h
  have HG := Lib.hid hg
  clear h hg
  go_enter Tryd.func19, Tryd.ntmps19
  go_wp2_with fail
  refine (HO.out _ ?_).mono ?_
  · exact ((HG.out.alloc _).alloc _).alloc _
  rintro e w1 ⟨rfl, hb⟩
  have hB : Below (boxed w 23 (.int .i64 v) (.int .i64 s) (.bool d) (.int .i64 v') (.int .i64 s') (.bool d') (.int .i64 0) (.int .i64 0) (.bool false)).heap.size (boxed w 23 (.int .i64 v) (.int .i64 s) (.bool d) (.int .i64 v') (.int .i64 s') (.bool d') (.int .i64 0) (.int .i64 0) (.bool false)) w1 := hb
  obtain ⟨c0, c1, c2, c3, c4, c5, ⟨c6, c7, c8⟩, c9⟩ := boxes hB
  go_wp2
  refine bodyPost_ret (v := .tuple #[.agg #[.int .i64 x, .int .i64 c, .bool b], .int .i64 n]) (by simp [results, Tryd.results19, *, go_sem]) rfl ⟨rfl, ?_⟩
  exact ((((boxed_below hB)).setCell (by simp; omega) _).setCell (by simp; omega) _).setCell (by simp; omega) _

end Go.Proofs.YtdoagbengfdcgaaDoor
