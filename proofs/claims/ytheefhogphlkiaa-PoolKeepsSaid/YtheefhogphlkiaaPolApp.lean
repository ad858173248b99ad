/- Messages appended to a row that the call made: whatever slice they come from. -/
import Derived.Test.YtheefhogphlkiaaPolCut
import Derived.Laws.AppendOwnNone
namespace Go.Proofs.Ytheefhogphlkiaa
open Go.RowKit

/- a slice that reads as these messages -/
def Src (w : World) (x : Value) (R : List MsgL) : Prop :=
  (x = .slice none 0 0 ∧ R = []) ∨ ∃ ad c, x = .slice (some ad) R.length c ∧ ∀ j u, (cellsM R)[j]? = some u → w.cell? (ad.add j) = some u
theorem src_own {w : World} {B : Nat} {x : Value} {R : List MsgL} (h : Own w B x R) : Src w x R := by
  rcases h.2 with ⟨h0, h1⟩ | ⟨g, cap, cur, rfl, _, _⟩
  · exact .inl ⟨h0, List.eq_nil_of_length_eq_zero h1⟩
  · exact .inr ⟨_, _, rfl, World.ownsRow.cells h (g := g) rfl⟩
theorem src_on {w w' : World} {B : Nat} {x : Value} {R : List MsgL} (h : Own w B x R) (hb : Below w.heap.size w w') : Src w' x R := src_own (own_on h hb)
/- one message in a block that has just been made -/
theorem src_one (W : World) (m : MsgL) {X : Nat} (hX : X = W.heap.size) : Src (W.alloc (.cells #[.int .i64 m.f, .int .i64 m.t, .string m.b] 29)) (.slice (some ⟨X, 0, none⟩) 1 1) [m] :=
  .inr ⟨_, _, rfl, by rw [cellsM_one]; exact news_gen W _ m.cs hX⟩

section
variable {o : Oper} {a : Act} {w : World}
theorem wp_msg_append {K : Act → World → Prop} {Q : Exit → Act → World → Prop} (s x : Operand) (ho : o.op = .call { callee := .builtin .append, args := #[s, x], argTypes := #[25, 25] })
    (B : Nat) (v : Value) (L : List MsgL) (hs : a.eval s = v) (hown : Own w B v L) (xv : Value) (R : List MsgL) (hx : a.eval x = xv) (hsrc : Src w xv R) (hl : L.length + R.length ≤ 100000) (hB : B ≤ w.heap.size)
    (h : ∀ v' w', Own w' B v' (L ++ R) → w.grownBy w' v.ownBlock → K (a.put o.dst v') w') : Oper.wp Try.prog o a w K Q := by
  obtain ⟨i0, hi, hz0, hz1, hz2⟩ := info_parts info_msg
  rcases hsrc with ⟨rfl, rfl⟩ | ⟨ad, c, rfl, hc⟩
  · have hrun := run_append_owned_none (P := Try.prog) (w := w) B 25 o.type 29 i0 3 Try.underlying25 hi v L.length (cellsM L) hown
    unfold Oper.wp
    simp [execOp, ho, resolve, invoke, builtin, hs, hx, hrun, Result.andThen]
    exact h v w (by rw [List.append_nil]; exact hown) ⟨rfl, rfl, rfl, Nat.le_refl _, fun _ _ _ => rfl⟩
  · refine wp_append_own w s x 25 ho B 29 i0 (.agg #[.int .i64 0, .int .i64 0, .string ⟨#[]⟩]) 3 32 Try.underlying25 hi hz0 hz1 hz2 rfl (by decide) v L.length (cellsM L) hs hown ad R.length c (cellsM R) hx (cellsM_length R) hc (cellsM_one' R) (by unfold maxLen; omega) (by omega) hB ?_
    intro v' w' h1 h2 _
    refine h v' w' ?_ h2
    unfold Own
    rw [cellsM_append, List.length_append]; exact h1
theorem msg_append {ops : Array Oper} {rest : List Oper} {Q : Exit → Act → World → Prop} (s x : Operand) (ho : o.op = .call { callee := .builtin .append, args := #[s, x], argTypes := #[25, 25] } ∧ o.guard = none)
    (B : Nat) (v : Value) (L : List MsgL) (hs : a.eval s = v) (hown : Own w B v L) (xv : Value) (R : List MsgL) (hx : a.eval x = xv) (hsrc : Src w xv R) (hl : L.length + R.length ≤ 100000) (hB : B ≤ w.heap.size)
    (h : ∀ v' w', Hid (Own w' B v' (L ++ R)) → Hid (w.grownBy w' v.ownBlock) → wpList Try.prog ops Q rest (a.put o.dst v') w') : wpList Try.prog ops Q (o :: rest) a w :=
  wpList_plain ho.2 fun _ hK => wp_msg_append s x ho.1 B v L hs hown xv R hx hsrc hl hB fun v' w' h1 h2 => hK _ _ (h v' w' h1 h2)
end
/- an empty row that has just been made -/
theorem own_empty (w : World) : Own (w.alloc (.cells #[] 29)) w.heap.size (.slice (some ⟨w.heap.size, 0, none⟩) 0 0) [] := World.ownsRow_made w #[] 0 (Nat.le_refl _) (Nat.zero_le _) rfl

end Go.Proofs.Ytheefhogphlkiaa
