/- A number's term, by package number and by the document. -/
import Derived.Test.YtdoagbengfdcgaaDoorNumRefText
namespace Go.Proofs.YtdoagbengfdcgaaDoor
open Go.RowKit

def tyI : ByteArray := ⟨#[104, 116, 116, 112, 58, 47, 47, 119, 119, 119, 46, 119, 51, 46, 111, 114, 103, 47, 50, 48, 48, 49, 47, 88, 77, 76, 83, 99, 104, 101, 109, 97, 35, 105, 110, 116, 101, 103, 101, 114]⟩
def tyD : ByteArray := ⟨#[104, 116, 116, 112, 58, 47, 47, 119, 119, 119, 46, 119, 51, 46, 111, 114, 103, 47, 50, 48, 48, 49, 47, 88, 77, 76, 83, 99, 104, 101, 109, 97, 35, 100, 101, 99, 105, 109, 97, 108]⟩
def tyOf (d : Bool) : ByteArray := if d then tyD else tyI
def termV (v : Int) (s : Nat) (d : Bool) : Value := .agg #[.int .i64 2, .string (bs (textL v s d)), .string (tyOf d), .string ⟨#[]⟩]

set_option maxRecDepth 100000 in
set_option maxHeartbeats 2000000 in
theorem Term_wrong (v s : Int) (d : Bool) (w : World) (h : rightZ v s d = false) :
    Calls Tryd.prog 10 #[.agg #[.int .i64 v, .int .i64 s, .bool d]] w fun e w' => e = .returned (.tuple #[.agg #[.int .i64 0, .string ⟨#[]⟩, .string ⟨#[]⟩, .string ⟨#[]⟩], .int .i64 2]) ∧ Below w.heap.size w w' := by
  have HT := Lib.hid (Text_wrong v s d)
  have HR := Lib.hid h
  clear h
  go_enter Tryd.func10, Tryd.ntmps10
  go_wp2_with fail
  refine (HT.out _ HR.out).mono ?_
  rintro e w1 ⟨rfl, hb⟩
  obtain ⟨hc, hf⟩ := bcell hb
  have hz : w.heap.size < w1.heap.size := by have := hb.size; simp at this; omega
  have hz1 : w.heap.size + 1 < w1.heap.size := by have := hb.size; simp at this; omega
  go_wp2
  refine bodyPost_ret (v := .tuple #[.agg #[.int .i64 0, .string ⟨#[]⟩, .string ⟨#[]⟩, .string ⟨#[]⟩], .int .i64 2]) (by simp [results, Tryd.results10, hc, go_sem]) rfl ⟨rfl, ?_⟩
  have hB : Below w.heap.size w w1 := (two_alloc w _ _).trans (hb.mono (by simp; omega))
  exact (((hB.setCell (by simp) _).setCell (by simp) _).setCell (by simp) _).setCell (by simp) _

set_option maxRecDepth 100000 in
set_option maxHeartbeats 2000000 in
theorem Term_right (v : Int) (s : Nat) (d : Bool) (w : World) (hg : Good w) (hr : rightZ v s d = true) (hs : s ≤ 4) (h1 : -999999999 ≤ v) (h2 : v ≤ 999999999) :
    Calls Tryd.prog 10 #[.agg #[.int .i64 v, .int .i64 s, .bool d]] w fun e w' => e = .returned (.tuple #[termV v s d, .int .i64 0]) ∧ Below w.heap.size w w' := by
  have HT : Hid (∀ W, Good W → Calls Tryd.prog 9 #[.agg #[.int .i64 v, .int .i64 s, .bool d]] W fun e w' => e = .returned (.tuple #[.string (bs (textL v s d)), .int .i64 0]) ∧ Below W.heap.size W w') := Lib.hid fun W hW => Text_right v s d W hW hr hs h1 h2
  have HG := Lib.hid hg
  unfold termV
  generalize bs (textL v s d) = x at HT ⊢
  clear hr hg hs h1 h2
  cases d
  all_goals
    go_enter Tryd.func10, Tryd.ntmps10
    go_wp2_with fail
    refine (HT.out _ ?_).mono ?_
    · exact (HG.out.alloc _).alloc _
    rintro e w1 ⟨rfl, hb⟩
    obtain ⟨hc, hf⟩ := bcell hb
    have hz : w.heap.size < w1.heap.size := by have := hb.size; simp at this; omega
    have hz1 : w.heap.size + 1 < w1.heap.size := by have := hb.size; simp at this; omega
    have hB : Below w.heap.size w w1 := (two_alloc w _ _).trans (hb.mono (by simp; omega))
    go_wp2
    refine bodyPost_ret (v := .tuple #[.agg #[.int .i64 2, .string x, .string (tyOf _), .string ⟨#[]⟩], .int .i64 0]) (by simp [results, Tryd.results10, hc, hz1, go_sem]; rfl) rfl ⟨rfl, ?_⟩
    exact ((((hB.setCell (by simp) _).setCell (by simp) _).setCell (by simp) _).setCell (by simp) _).alloc (by simp; omega) _

set_option maxRecDepth 100000 in
set_option maxHeartbeats 2000000 in
theorem rTerm_calls (v : Int) (s : Nat) (d : Bool) (w : World) (hs : s ≤ 4) (h1 : -999999999 ≤ v) (h2 : v ≤ 999999999) :
    Calls Tryd.prog 15 #[.agg #[.int .i64 v, .int .i64 s, .bool d]] w fun e w' => e = .returned (termV v s d) ∧ Below w.heap.size w w' := by
  have HT : Hid (∀ W, Calls Tryd.prog 14 #[.agg #[.int .i64 v, .int .i64 s, .bool d]] W fun e w' => e = .returned (.string (bs (textL v s d))) ∧ Below W.heap.size W w') := Lib.hid fun W => rText_calls v s d W hs h1 h2
  unfold termV
  generalize bs (textL v s d) = x at HT ⊢
  clear hs h1 h2
  cases d
  all_goals
    go_enter Tryd.func15, Tryd.ntmps15
    go_wp2_with fail
    refine (HT.out _).mono ?_
    rintro e w1 ⟨rfl, hb⟩
    obtain ⟨hc, hf⟩ := bcell hb
    have hz : w.heap.size < w1.heap.size := by have := hb.size; simp at this; omega
    have hz1 : w.heap.size + 1 < w1.heap.size := by have := hb.size; simp at this; omega
    have hB : Below w.heap.size w w1 := (two_alloc w _ _).trans (hb.mono (by simp; omega))
    go_wp2
    refine bodyPost_ret (v := .agg #[.int .i64 2, .string x, .string (tyOf _), .string ⟨#[]⟩]) (by simp [results, Tryd.results15, hc, go_sem]; rfl) rfl ⟨rfl, ?_⟩
    exact (((hB.setCell (by simp) _).setCell (by simp) _).setCell (by simp) _).setCell (by simp) _

end Go.Proofs.YtdoagbengfdcgaaDoor
