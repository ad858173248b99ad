
/- The pieces of a term that a text begins with: what package term's readers of brackets, types, languages and escapes come to, for every text. The term that a text begins with: what package term's readers of IRIs and names come to, for every text. A literal's text with its double quotes and escapes, at a text's head: what package term's unquote comes to, for every text. -/
import Derived.Test.YtgkpdcjkobieiaaDoorTermCheck
import Derived.Test.YtgkpdcjkobieiaaDoorTermPlains
import Derived.Lib.OthersKept
namespace Go.Proofs.YtgkpdcjkobieiaaDoor
open Go.RowKit

theorem ret_si {a b : ByteArray} {m n : Int} (h : a = b) (g : m = n) : Ending.returned (.tuple #[.string a, .int .i64 m]) = .returned (.tuple #[.string b, .int .i64 n]) := by rw [h, g]

theorem len_ok {s : ByteArray} (h : s.size ≤ 281474976710656) : s.size ≤ maxLen := by unfold maxLen; omega

theorem drop_bs (s : ByteArray) (a : Nat) : s.extract a s.size = bs (s.data.toList.drop a) := bs_eq (by rw [Lib.extract_data, List.take_of_length_le]; rw [List.length_drop, ← Lib.size_eq]; exact Nat.le_refl _)
theorem piece_bs (s : ByteArray) (a b : Nat) : s.extract a b = bs ((s.data.toList.drop a).take (b - a)) := bs_eq (Lib.extract_data s a b)

theorem pre_le {s : ByteArray} {p : List UInt8} (h : Lib.hasPrefix s.data.toList p = true) : p.length ≤ s.size := by
  have := Lib.hasPrefix_le h; rw [Lib.size_eq]; exact this
theorem lead_le_size (p : Nat → Int → Bool) (s : ByteArray) (n : Nat) : lead p 0 (s.data.toList.drop n) ≤ s.size - n := by
  rw [Lib.size_eq]; exact lead_drop_le p _ n

theorem bracketS_size (s : ByteArray) (n : Nat) : (bracketS (s.data.toList.drop n)).2 ≤ s.size - n + 1 := by
  have := bracketS_le (s.data.toList.drop n); rw [List.length_drop, ← Lib.size_eq] at this; exact this

end Go.Proofs.YtgkpdcjkobieiaaDoor

namespace Go.Proofs.YtgkpdcjkobieiaaDoor
open Go.RowKit

end Go.Proofs.YtgkpdcjkobieiaaDoor

namespace Go.Proofs.YtgkpdcjkobieiaaDoor
open Go.RowKit

theorem info_byte : (Tryd.prog.info? 5).map (fun i => (i.zero, i.size, i.bytes)) = some (some (.int .u8 0), 1, 1) := by kernel_rfl

/- a row of bytes that the call owns, read as a text -/
theorem convert_own {w : World} {base n : Nat} {v : Value} {l : List UInt8} (h : w.ownsRow base 5 1 v n (Lib.byteCells l)) :
    (convert 84 9 v).run Tryd.prog w = .ok (.string (bs l)) w := by
  have hl : n = l.length := by have := h.1; rw [Lib.byteCells_length] at this; omega
  subst hl
  rcases h.2 with ⟨rfl, h0⟩ | ⟨g, cap, cur, rfl, _⟩
  · have e : l = [] := List.eq_nil_of_length_eq_zero h0
    subst e
    rw [run_convert_bytes_string w 84 9 5 none 0 0 Tryd.underlying84 Tryd.underlying5 Tryd.underlying9]
    rfl
  · exact run_convert_bytes_back (P := Tryd.prog) w 84 9 5 ⟨g, 0, none⟩ cap l Tryd.underlying84 Tryd.underlying5 Tryd.underlying9 (fun j hj => h.cells (g := g) rfl j _ (by simp [Lib.byteCells, hj]))

/- a row that the call owns is no string's iterator: it stays while that one goes on -/
theorem row_not_iter {w : World} {B e size n : Nat} {v : Value} {xs : List Value} {k pos : Nat} {s : ByteArray} (h : w.ownsRow B e size v n xs) (hk : w.heap[k]? = some (.stringIter s pos)) : some k ≠ v.ownBlock := by
  intro c
  rcases h.2 with ⟨rfl, _⟩ | ⟨g, cap, cur, rfl, _, hg, _⟩
  · simp [Value.ownBlock] at c
  · simp only [Value.ownBlock, Option.some.injEq] at c
    rw [c, hg] at hk; cases hk
theorem row_iter {w : World} {B e size n : Nat} {v : Value} {xs : List Value} {k pos : Nat} {s : ByteArray} (h : w.ownsRow B e size v n xs) (hk : w.heap[k]? = some (.stringIter s pos)) (q : Nat) : (w.iterAt k s q).ownsRow B e size v n xs := by
  refine ⟨h.1, ?_⟩
  rcases h.2 with h0 | ⟨g, cap, cur, hv, hb, hg, r⟩
  · exact .inl h0
  · refine .inr ⟨g, cap, cur, hv, hb, ?_, r⟩
    rw [Lib.iterAt_other w k g s q (fun c => by subst c; rw [hk] at hg; cases hg), hg]

theorem row_some {w : World} {B e size n : Nat} {v : Value} {xs : List Value} (h : w.ownsRow B e size v (n + 1) xs) : ∃ g cap, v = .slice (some ⟨g, 0, none⟩) (n + 1) cap := by
  rcases h.2 with ⟨_, h0⟩ | ⟨g, cap, cur, hv, _⟩
  · omega
  · exact ⟨g, cap, hv⟩

theorem row_slice {w : World} {B e size n : Nat} {v : Value} {xs : List Value} (h : w.ownsRow B e size v n xs) : ∃ a cap, v = .slice a n cap := by
  rcases h.2 with ⟨hv, h0⟩ | ⟨g, cap, cur, hv, _⟩
  · subst h0; exact ⟨none, 0, hv⟩
  · exact ⟨_, cap, hv⟩

theorem taken_more {w W w3 : World} {v v3 : Value} {o : Obj} {S : ByteArray} {t : List UInt8} {c : UInt8} {k : Nat} (hown : W.ownsRow w.heap.size 5 1 v t.length (Lib.byteCells t)) (hit : W.heap[w.heap.size]? = some (.stringIter S k)) (hbw : Below w.heap.size w W)
    (hgrow : (W.alloc o).grownBy w3 v.ownBlock) (hown3 : w3.ownsRow w.heap.size 5 1 v3 (t.length + 1) (Lib.byteCells t ++ [.int .u8 c.toNat])) :
    Below w.heap.size w w3 ∧ w3.heap[w.heap.size]? = some (.stringIter S k) ∧ w3.ownsRow w.heap.size 5 1 v3 (t ++ [c]).length (Lib.byteCells (t ++ [c])) := by
  have hlt : w.heap.size < W.heap.size := (Array.getElem?_eq_some_iff.1 hit).1
  refine ⟨(hbw.alloc (by omega) _).grown hgrow (by simp; omega) (fun k hk => (hown.lt k hk).1), ?_, ?_⟩
  · rw [hgrow.block w.heap.size (by simp; omega) (row_not_iter hown hit), Below.heap_alloc _ _ _ hlt, hit]
  · rw [Lib.byteCells_append, List.length_append]; exact hown3

/- what a round keeps: how far the iterator is, what has been taken, whether a backslash is open -/
def Taken (s S : ByteArray) (w : World) (v o : Value) (wr : World) : Prop :=
  ∃ (k : Nat) (t : List UInt8) (b : Bool), o = .bool b ∧ wr.ownsRow w.heap.size 5 1 v t.length (Lib.byteCells t) ∧ wr.heap[w.heap.size]? = some (.stringIter S k) ∧ Below w.heap.size w wr ∧ k ≤ S.size ∧ t.length ≤ 4096 ∧
    Hid (unquoteS s.data.toList = unq (S.data.toList.drop k) t b k)

end Go.Proofs.YtgkpdcjkobieiaaDoor
