/- What the walks of layer 19 share: blocks, rows of messages, a pool in memory; messages held against each other. -/
import Derived.Test.YtheefhogphlkiaaPolPlain
import Derived.Test.YtheefhogphlkiaaProg
import Derived.WalkKit
import Derived.Lib.Hide
import Derived.Lib.Strings
import Derived.WalkSpells
import Derived.WalkLawsBesides
import Derived.BigQuiet
import Derived.Deep.QuietTactic
import Derived.ChangeAlike
import Derived.Laws.IdiomStrings
import Derived.Laws.Tables
import Derived.OwnWalk
import Derived.Deep.LoopGhost
import Derived.Maps.AppendAt
import Derived.Laws.CopyRow
import Derived.Laws.CopyOwn
import Derived.Deep.RegionHeld3
import Derived.Lib.QuietBelow
namespace Go.Proofs.Ytheefhogphlkiaa
open Go.RowKit

theorem box_below (w : World) (o : Obj) : Below w.heap.size w (w.alloc o) := (Below.refl _ _).alloc (Nat.le_refl _) _
theorem keptC {w w' : World} {g o B : Nat} {v : Value} (h : w.cell? ⟨g, o, none⟩ = some v) (hb : Below B w w') (hg : g < B) : w'.cell? ⟨g, o, none⟩ = some v := (hb.cell (p := ⟨g, o, none⟩) hg).trans h
theorem fb2 {B : Nat} {W W' W'' : World} (h : Below B W W') (h' : Below W'.heap.size W' W'') (hB : B ≤ W.heap.size) : Below B W W'' := h.trans (h'.mono (Nat.le_trans hB h.size))
theorem drewN_below {B : Nat} {a w : World} (h : Below B a w) (n : Nat) : Below B a (w.drewN n) := ⟨h.os, h.tape, h.output, h.size, h.block⟩
theorem cell_lt {w : World} {a : Addr} {v : Value} (h : w.cell? a = some v) : a.block < w.heap.size := World.block_lt_of_cell? w a h

def Blk (W : World) (X : Nat) (T : TypeId) (a : Array Value) : Prop := W.heap[X]? = some (.cells a T (0, 0))
theorem blk_lt {W : World} {X : Nat} {T : TypeId} {a : Array Value} (h : Blk W X T a) : X < W.heap.size := (Array.getElem?_eq_some_iff.1 h).1
theorem blk_cell {W : World} {X : Nat} {T : TypeId} {a : Array Value} (h : Blk W X T a) (i : Nat) : W.cell? ⟨X, i, none⟩ = a[i]? := by unfold Blk at h; simp [World.cell?, h]
theorem blk_free {W : World} {X : Nat} {T : TypeId} {a : Array Value} (h : Blk W X T a) (i : Nat) : W.frozen? ⟨X, i, none⟩ = false := by unfold Blk at h; simp [World.frozen?, h]
theorem blk_on {W W' : World} {X B : Nat} {T : TypeId} {a : Array Value} (h : Blk W X T a) (hb : Below B W W') (hX : X < B) : Blk W' X T a := by unfold Blk at *; rw [hb.block X hX]; exact h
theorem blk_new (W : World) (T : TypeId) (a : Array Value) : Blk (W.alloc (.cells a T)) W.heap.size T a := heap_alloc_new W _
theorem blk_set {W : World} {X : Nat} {T : TypeId} {a : Array Value} (h : Blk W X T a) (i : Nat) (v : Value) : Blk (W.setCell ⟨X, i, none⟩ v) X T (a.setIfInBounds i v) := by
  have hlt := blk_lt h
  unfold Blk at *
  have h' : W.heap[X] = .cells a T (0, 0) := by simpa [Array.getElem?_eq_getElem hlt] using h
  show (W.heap.modify X _)[X]? = _
  rw [Array.getElem?_eq_getElem (by simpa using hlt), Array.getElem_modify_self, h']
  rfl
theorem blk_kinds {W : World} {X G : Nat} {T U : TypeId} {a c : Array Value} (h : Blk W X T a) (k : Blk W G U c) (hne : T ≠ U) : X ≠ G := by
  rintro rfl
  unfold Blk at *
  rw [h] at k
  simp only [Option.some.injEq, Obj.cells.injEq] at k
  exact hne k.2.1
theorem blk_row {W : World} {X : Nat} {T : TypeId} {a : Array Value} (h : Blk W X T a) (n : Array Value) : Blk (W.setRow X n) X T n := setRow_heap W X a n T _ h
theorem grown_set (w : World) (g : Nat) (cs : Array Value) : w.grownBy (w.setRow g cs) (some g) := ⟨rfl, rfl, rfl, by simp, fun k _ hk => setRow_other w g k cs (fun e => hk (by simp [e]))⟩
theorem add_at0 (g o j : Nat) : (⟨g, o, none⟩ : Addr).add j = ⟨g, o + j, none⟩ := by unfold Addr.add; split <;> simp_all
theorem news_gen (W : World) (T : TypeId) (cs : List Value) {X : Nat} (hX : X = W.heap.size) : ∀ n u, cs[n]? = some u → (W.alloc (.cells cs.toArray T)).cell? ((⟨X, 0, none⟩ : Addr).add n) = some u := by
  subst hX
  intro n u hu
  rw [add_at0, Nat.zero_add, blk_cell (blk_new W T cs.toArray)]
  simpa using hu
theorem whole_abs {ops : Array Oper} {rest : List Oper} {o : Oper} {a : Act} {w : World} {Q : Exit → Act → World → Prop} (ty : TypeId) (x y : Operand) (ho : o.op = .store ty x y ∧ o.guard = none)
    (g : Nat) (cells : Array Value) (hx : a.eval x = .pointer (some ⟨g, 0, none⟩)) (hy : a.eval y = .agg cells) (T : TypeId) (old : Array Value) (hg : Blk w g T old) (hi : (Try.prog.info? ty).map (·.size) = some cells.size)
    (hold : old.size = cells.size) (h1 : cells.all (·.oneCell') = true)
    (h : ∀ w', Hid (Blk w' g T cells) → Hid (w.grownBy w' (some g)) → wpList Try.prog ops Q rest (a.put o.dst undef) w') : wpList Try.prog ops Q (o :: rest) a w :=
  wpList_store_row ho.2 ty x y ho.1 g cells hx hy T old hg hi hold h1 (h _ (blk_row hg cells) (grown_set _ _ _))

/- a message's cells -/
theorem info_msg : (Try.prog.info? 29).map (fun i => (i.zero, i.size, i.bytes)) = some (some (.agg #[.int .i64 0, .int .i64 0, .string ⟨#[]⟩]), 3, 32) := by kernel_rfl
theorem info_parts {t : TypeId} {z : Option Value} {s b : Nat} (h : (Try.prog.info? t).map (fun i => (i.zero, i.size, i.bytes)) = some (z, s, b)) : ∃ i, Try.prog.info? t = some i ∧ i.zero = z ∧ i.size = s ∧ i.bytes = b := by
  cases hq : Try.prog.info? t with
  | none => rw [hq] at h; cases h
  | some i => rw [hq] at h; simp at h; exact ⟨i, rfl, h.1, h.2.1, h.2.2⟩
theorem msg_one (f t : Int) (b : ByteArray) : (#[Value.int .i64 f, Value.int .i64 t, Value.string b].all fun x => x.oneCell') = true := by
  have h : ∀ s : ByteArray, (Value.string s).oneCell' = true := fun _ => rfl
  have h2 : ∀ i : Int, (Value.int .i64 i).oneCell' = true := fun _ => rfl
  simp [h, h2]
def Msg3 (w : World) (g j : Nat) (x : MsgL) : Prop := w.cell? ⟨g, j, none⟩ = some (.int .i64 x.f) ∧ w.cell? ⟨g, j + 1, none⟩ = some (.int .i64 x.t) ∧ w.cell? ⟨g, j + 2, none⟩ = some (.string x.b)
theorem Msg3.on {w w' : World} {g o B : Nat} {x : MsgL} (h : Msg3 w g o x) (hb : Below B w w') (hg : g < B) : Msg3 w' g o x :=
  ⟨keptC h.1 hb hg, keptC h.2.1 hb hg, keptC h.2.2 hb hg⟩

/- a row of messages that a call made -/
def Own (w : World) (B : Nat) (v : Value) (L : List MsgL) : Prop := w.ownsRow B 29 3 v L.length (cellsM L)
theorem own_on {w w' : World} {B : Nat} {v : Value} {L : List MsgL} (h : Own w B v L) (hb : Below w.heap.size w w') : Own w' B v L := by
  refine ⟨h.1, ?_⟩
  rcases h.2 with h0 | ⟨g, cap, cur, hv, hg, hh, r⟩
  · exact .inl h0
  · exact .inr ⟨g, cap, cur, hv, hg, by rw [hb.block g (Array.getElem?_eq_some_iff.1 hh).1]; exact hh, r⟩
theorem own_base {w : World} {B B' : Nat} {v : Value} {L : List MsgL} (h : Own w B v L) (hB : B' ≤ B) : Own w B' v L := by
  refine ⟨h.1, ?_⟩
  rcases h.2 with h0 | ⟨g, cap, cur, hv, hg, r⟩
  · exact .inl h0
  · exact .inr ⟨g, cap, cur, hv, Nat.le_trans hB hg, r⟩
theorem own_slice {w : World} {B : Nat} {v : Value} {L : List MsgL} (h : Own w B v L) : ∃ a c, v = .slice a L.length c := by
  rcases h.2 with ⟨h0, h1⟩ | ⟨g, cap, cur, hv, _⟩
  · rw [h1]; exact ⟨_, _, h0⟩
  · exact ⟨_, _, hv⟩
/- what such a row reads as -/
theorem own_open {w : World} {B : Nat} {v : Value} {L : List MsgL} (h : Own w B v L) :
    ∃ a c, v = .slice a L.length c ∧ L.length ≤ c ∧ c ≤ maxLen ∧ (0 < L.length → ∃ g, a = some ⟨g, 0, none⟩ ∧ B ≤ g ∧ g < w.heap.size ∧ ∀ j (h : j < L.length), Msg3 w g (j * 3) L[j]) := by
  rcases h.2 with ⟨h0, h1⟩ | ⟨g, cap, cur, hv, hg, hh, hn, hc, hs, ht⟩
  · exact ⟨none, 0, by rw [h0, h1], by omega, Nat.zero_le _, fun h2 => by omega⟩
  · refine ⟨some ⟨g, 0, none⟩, cap, hv, hn, hc, fun _ => ⟨g, rfl, hg, (Array.getElem?_eq_some_iff.1 hh).1, fun j hj => ?_⟩⟩
    have hb : Blk w g 29 cur := hh
    have F : ∀ i, i < 3 → w.cell? ⟨g, j * 3 + i, none⟩ = L[j].cs[i]? := fun i hi => by
      rw [blk_cell hb, ← cellsM_at L j hj i hi, ← ht, List.getElem?_take, if_pos (by omega)]; simp
    exact ⟨(F 0 (by decide)).trans rfl, (F 1 (by decide)).trans rfl, (F 2 (by decide)).trans rfl⟩
theorem own_lt {w : World} {B : Nat} {v : Value} {L : List MsgL} (h : Own w B v L) : ∀ k, v.ownBlock = some k → B ≤ k ∧ k < w.heap.size := World.ownsRow.lt h
/- its block -/
theorem own_blk {w : World} {B : Nat} {v : Value} {L : List MsgL} (h : Own w B v L) : ∀ k, v.ownBlock = some k → ∃ cur, Blk w k 29 cur := by
  intro k hk
  rcases h.2 with ⟨rfl, _⟩ | ⟨g, cap, cur, rfl, _, hh, _⟩
  · simp [Value.ownBlock] at hk
  · simp only [Value.ownBlock, Option.some.injEq] at hk
    subst hk
    exact ⟨cur, hh⟩

/- a pool in memory: v is its row -/
structure PoolT (w : World) (B P : Nat) (v : Value) (L : List MsgL) : Prop where
  blk : Blk w P 55 #[v]
  base : B ≤ P
  own : Own w B v L
  ok : OkL L
/- what a call on it may change -/
structure Moved (w w' : World) (P : Nat) (v v' : Value) : Prop where
  os : w'.os = w.os
  tape : w'.tape = w.tape
  output : w'.output = w.output
  size : w.heap.size ≤ w'.heap.size
  block : ∀ k, k < w.heap.size → k ≠ P → v.ownBlock ≠ some k → w'.heap[k]? = w.heap[k]?
  own : v'.ownBlock = v.ownBlock ∨ ∀ g, v'.ownBlock = some g → w.heap.size ≤ g
theorem pool_on {w w' : World} {B P : Nat} {v : Value} {L : List MsgL} (h : PoolT w B P v L) (hb : Below w.heap.size w w') : PoolT w' B P v L :=
  ⟨blk_on h.blk hb (blk_lt h.blk), h.base, own_on h.own hb, h.ok⟩
theorem PoolT.cell {w : World} {B P : Nat} {v : Value} {L : List MsgL} (h : PoolT w B P v L) : w.cell? ⟨P, 0, none⟩ = some v := (blk_cell h.blk 0).trans rfl
theorem moved_below {w w' : World} {B P : Nat} {v v' : Value} {L : List MsgL} (h : PoolT w B P v L) (hm : Moved w w' P v v') : Below B w w' :=
  ⟨hm.os, hm.tape, hm.output, hm.size, fun k hk => hm.block k (by have := h.base; have := blk_lt h.blk; omega) (by have := h.base; omega) (fun e => by have := (own_lt h.own k e).1; omega)⟩
theorem moved_of {w w' : World} {P : Nat} {v : Value} (hb : Below w.heap.size w w') : Moved w w' P v v :=
  ⟨hb.os, hb.tape, hb.output, hb.size, fun k hk _ _ => hb.block k hk, .inl rfl⟩
theorem moved_first {w w1 w2 : World} {P : Nat} {v v' : Value} (hb : Below w.heap.size w w1) (h : Moved w1 w2 P v v') : Moved w w2 P v v' :=
  ⟨h.os.trans hb.os, h.tape.trans hb.tape, h.output.trans hb.output, Nat.le_trans hb.size h.size, fun k hk h1 h2 => (h.block k (Nat.lt_of_lt_of_le hk hb.size) h1 h2).trans (hb.block k hk),
    h.own.imp id fun h2 g hg => Nat.le_trans hb.size (h2 g hg)⟩
theorem moved_then {w w1 w2 : World} {P : Nat} {v v' : Value} (h : Moved w w1 P v v') (hb : Below w1.heap.size w1 w2) : Moved w w2 P v v' :=
  ⟨hb.os.trans h.os, hb.tape.trans h.tape, hb.output.trans h.output, Nat.le_trans h.size hb.size, fun k hk h1 h2 => (hb.block k (Nat.lt_of_lt_of_le hk h.size)).trans (h.block k hk h1 h2), h.own⟩
/- a row that lies apart from the pool's -/
def Apart (x v : Value) : Prop := ∀ g, x.ownBlock = some g → v.ownBlock ≠ some g
theorem own_moved {w w' : World} {B B' P : Nat} {v v' x : Value} {L R : List MsgL} (hx : Own w B' x R) (hd : Apart x v) (hp : PoolT w B P v L) (hm : Moved w w' P v v') : Own w' B' x R ∧ Apart x v' := by
  constructor
  · refine ⟨hx.1, ?_⟩
    rcases hx.2 with h0 | ⟨g, cap, cur, hv, hg, hh, r⟩
    · exact .inl h0
    · have hb : Blk w g 29 cur := hh
      exact .inr ⟨g, cap, cur, hv, hg, by rw [hm.block g (blk_lt hb) (blk_kinds hb hp.blk (by decide)) (hd g (by rw [hv]; rfl))]; exact hh, r⟩
  · intro g hg
    rcases hm.own with h | h
    · rw [h]; exact hd g hg
    · intro e
      have h1 := (own_lt hx g hg).2
      have h2 := h g e
      omega
theorem new_pool (w : World) (B : Nat) (hB : B ≤ w.heap.size) : PoolT (w.alloc (.cells #[.slice none 0 0] 55)) B w.heap.size (.slice none 0 0) [] :=
  ⟨blk_new _ _ _, hB, ⟨rfl, .inl ⟨rfl, rfl⟩⟩, ok_none⟩

/- messages held against each other -/
theorem fields_msg : (Try.prog.fieldsOf 29).toList = [{ name := "From", type := 3, offset := 0, embedded := false, tag := "", pkgPath := "", byteOffset := 0 }, { name := "To", type := 3, offset := 1, embedded := false, tag := "", pkgPath := "", byteOffset := 8 }, { name := "Bytes", type := 9, offset := 2, embedded := false, tag := "", pkgPath := "", byteOffset := 16 }] := by kernel_rfl
theorem run_part_int (cs : Array Value) (off : Nat) (v : Value) (w : World) (h : cs[off]? = some v) : (part 3 cs off).run Try.prog w = .ok v w := by
  simp [part, h, Try.isAgg3, go_sem]
theorem run_part_string (cs : Array Value) (off : Nat) (v : Value) (w : World) (h : cs[off]? = some v) : (part 9 cs off).run Try.prog w = .ok v w := by
  simp [part, h, Try.isAgg9, go_sem]
set_option maxRecDepth 100000 in
theorem eq_msg (d : Nat) (x y : MsgL) (w : World) : (Op.equalIn (d + 2) 29 (.agg #[.int .i64 x.f, .int .i64 x.t, .string x.b]) (.agg #[.int .i64 y.f, .int .i64 y.t, .string y.b])).run Try.prog w = .ok (meq x y) w := by
  rw [run_equalIn_agg w (d + 1) 29 _ _ Try.underlying29 (by kernel_rfl), fields_msg]
  have e1 : ∀ a b : Int, (Op.equalIn (d + 1) 3 (.int .i64 a) (.int .i64 b)).run Try.prog w = .ok (a == b) w := fun a b => run_equalIn_int w d 3 .i64 .i64 a b Try.underlying3
  have e2 : ∀ s t : ByteArray, (Op.equalIn (d + 1) 9 (.string s) (.string t)).run Try.prog w = .ok (s.toList == t.toList) w := fun s t => run_equalIn_string w d 9 s t Try.underlying9
  have a0 := fun z : MsgL => run_part_int #[.int .i64 z.f, .int .i64 z.t, .string z.b] 0 (.int .i64 z.f) w rfl
  have a1 := fun z : MsgL => run_part_int #[.int .i64 z.f, .int .i64 z.t, .string z.b] 1 (.int .i64 z.t) w rfl
  have a2 := fun z : MsgL => run_part_string #[.int .i64 z.f, .int .i64 z.t, .string z.b] 2 (.string z.b) w rfl
  unfold meq
  simp only [Op.eqFields, Sem.run_ite, Sem.run_bind, a0, a1, a2, Result.andThen_ok, e1, e2, Sem.run_pure]
  cases (x.f == y.f) <;> cases (x.t == y.t) <;> cases (x.b.toList == y.b.toList) <;> simp
theorem neql_msg (x y : MsgL) (w : World) : (binOp .neq 29 (.agg #[.int .i64 x.f, .int .i64 x.t, .string x.b]) (.agg #[.int .i64 y.f, .int .i64 y.t, .string y.b])).run Try.prog w = .ok (.bool (!meq x y)) w := by
  rw [run_neq_struct, eq_msg 9998 x y w]; rfl
theorem eql_msg (x y : MsgL) (w : World) : (binOp .eql 29 (.agg #[.int .i64 x.f, .int .i64 x.t, .string x.b]) (.agg #[.int .i64 y.f, .int .i64 y.t, .string y.b])).run Try.prog w = .ok (.bool (meq x y)) w := by
  rw [run_eql_struct, eq_msg 9998 x y w]; rfl
theorem meq_self (x : MsgL) : meq x x = true := by unfold meq; simp

end Go.Proofs.Ytheefhogphlkiaa
