/- TermCompare, ShpEq, ShpCells, ShpMap, ShpCols, ShpIdx, put together. -/
import Derived.Test.YtdnfaoanaehjhaaGreatDoorH4
import Derived.Test.YtdnfaoanaehjhaaGreatDoorH3
import Derived.Test.YtdnfaoanaehjhaaGreatDoorH6
import Derived.Test.YtdnfaoanaehjhaaGreatDoorProg
import Derived.KernelRfl
import Derived.WalkKit
import Derived.Test.YtdnfaoanaehjhaaGreatDoorH5
import Derived.Test.YtdnfaoanaehjhaaGreatDoorRows
import Derived.Maps.OwnSet
import Derived.Maps.Ext
import Derived.DeepKeys4
import Derived.Carry
import Derived.Deep.LoopGhost
import Derived.Shelf.Abstract

/- Which of two terms is ahead: what Compare and Less of package term come to, for every two terms. -/
namespace Go.Proofs.YtdnfaoanaehjhaaGreatDoor
open Go.RowKit

theorem two_alloc (w : World) (o o2 : Obj) : Below w.heap.size w ((w.alloc o).alloc o2) := (box_below w o).alloc (by simp) _

theorem cb_self (a : List UInt8) : Lib.compareBytes a a = 0 := (cb_zero a a).2 rfl

theorem same_of {a b : ByteArray} (h : (!a.toList == b.toList) = false) : Lib.compareBytes a.data.toList b.data.toList = 0 := by
  have e : a.toList = b.toList := by simpa using h
  rw [Lib.toList_data, Lib.toList_data] at e
  rw [e]; exact cb_self _
theorem other_of {a b : ByteArray} (h : (!a.toList == b.toList) = true) : Lib.compareBytes a.data.toList b.data.toList ≠ 0 := by
  have e : ¬ a.toList = b.toList := by simpa using h
  rw [Lib.toList_data, Lib.toList_data] at e
  exact fun c => e ((cb_zero _ _).1 c)

set_option maxHeartbeats 400000 in
theorem Compare_calls (k : Int) (x y z : ByteArray) (k' : Int) (x' y' z' : ByteArray) (w : World) :
    Calls Tryz.prog 112 #[.agg #[.int .i64 k, .string x, .string y, .string z], .agg #[.int .i64 k', .string x', .string y', .string z']] w fun e w' => e = .returned (.int .i64 (termCmp k x.data.toList y.data.toList z.data.toList k' x'.data.toList y'.data.toList z'.data.toList)) ∧ Below w.heap.size w w' := by
  go_enter Tryz.func112, Tryz.ntmps112
  go_wp2_with (go_at_call 127; refine (Tryz.strings_Compare _ _ _).mono ?_; rintro e w' ⟨rfl, rfl⟩)
  all_goals go_ret
  · exact ⟨ret_int (by unfold termCmp; rw [if_pos (by assumption)]), two_alloc _ _ _⟩
  · exact ⟨ret_int (by unfold termCmp; rw [if_neg (by omega), if_pos (by assumption)]), two_alloc _ _ _⟩
  · have e := other_of (a := x) (b := x') (by assumption)
    exact ⟨ret_int (by unfold termCmp; rw [if_neg (by omega), if_neg (by omega), if_pos e]), two_alloc _ _ _⟩
  · have e := same_of (a := x) (b := x') (by assumption)
    have e2 := other_of (a := y) (b := y') (by assumption)
    exact ⟨ret_int (by unfold termCmp; rw [if_neg (by omega), if_neg (by omega), if_neg (by omega), if_pos e2]), two_alloc _ _ _⟩
  · have e := same_of (a := x) (b := x') (by assumption)
    have e2 := same_of (a := y) (b := y') (by assumption)
    exact ⟨ret_int (by unfold termCmp; rw [if_neg (by omega), if_neg (by omega), if_neg (by omega), if_neg (by omega)]), two_alloc _ _ _⟩


end Go.Proofs.YtdnfaoanaehjhaaGreatDoor

/- Two terms held against each other as they are. -/
namespace Go.Proofs.YtdnfaoanaehjhaaGreatDoor
open Go.RowKit

def teq (a b : TermL) : Bool := (a.k == b.k) && ((bs a.x).toList == (bs b.x).toList && ((bs a.y).toList == (bs b.y).toList && (bs a.z).toList == (bs b.z).toList))

set_option maxRecDepth 100000 in
theorem fields_term : (Tryz.prog.fieldsOf 37).toList = [{ name := "Kind", type := 3, offset := 0, embedded := false, tag := "", pkgPath := "", byteOffset := 0 }, { name := "Text", type := 9, offset := 1, embedded := false, tag := "", pkgPath := "", byteOffset := 8 }, { name := "Type", type := 9, offset := 2, embedded := false, tag := "", pkgPath := "", byteOffset := 24 }, { name := "Lang", type := 9, offset := 3, embedded := false, tag := "", pkgPath := "", byteOffset := 40 }] := by kernel_rfl

set_option maxRecDepth 100000 in
theorem run_part_int (cs : Array Value) (off : Nat) (v : Value) (w : World) (h : cs[off]? = some v) : (part 3 cs off).run Tryz.prog w = .ok v w := by
  simp [part, h, Tryz.isAgg3, go_sem]
set_option maxRecDepth 100000 in
theorem run_part_string (cs : Array Value) (off : Nat) (v : Value) (w : World) (h : cs[off]? = some v) : (part 9 cs off).run Tryz.prog w = .ok v w := by
  simp [part, h, Tryz.isAgg9, go_sem]

set_option maxRecDepth 100000 in
theorem eq_term (d : Nat) (a b : TermL) (w : World) : (Op.equalIn (d + 2) 37 a.v b.v).run Tryz.prog w = .ok (teq a b) w := by
  unfold TermL.v
  rw [run_equalIn_agg w (d + 1) 37 _ _ Tryz.underlying37 (by kernel_rfl), fields_term]
  have e1 : (Op.equalIn (d + 1) 3 (.int .i64 a.k) (.int .i64 b.k)).run Tryz.prog w = .ok (a.k == b.k) w := run_equalIn_int w d 3 .i64 .i64 _ _ Tryz.underlying3
  have e2 : ∀ s t : ByteArray, (Op.equalIn (d + 1) 9 (.string s) (.string t)).run Tryz.prog w = .ok (s.toList == t.toList) w := fun s t => run_equalIn_string w d 9 s t Tryz.underlying9
  unfold teq
  simp [Op.eqFields, go_sem]
  repeat' split
  all_goals simp_all

set_option maxRecDepth 100000 in
theorem teq_true {a b : TermL} (h : teq a b = true) : a = b := by
  obtain ⟨k, x, y, z⟩ := a
  obtain ⟨k', x', y', z'⟩ := b
  unfold teq at h
  simp only [bs_toList, Bool.and_eq_true, beq_iff_eq] at h
  obtain ⟨rfl, rfl, rfl, rfl⟩ := h
  rfl
theorem teq_self (a : TermL) : teq a a = true := by
  unfold teq
  simp
theorem teq_is (a b : TermL) : teq a b = decide (a = b) := by
  by_cases h : a = b
  · subst h; rw [teq_self, decide_eq_true rfl]
  · rw [decide_eq_false h]
    cases hq : teq a b with
    | false => rfl
    | true => exact absurd (teq_true hq) h
set_option maxRecDepth 100000 in
theorem eq_terms (a b : TermL) (w : World) : (binOp .eql 37 a.v b.v).run Tryz.prog w = .ok (.bool (decide (a = b))) w := by
  have h := eq_term 9998 a b w
  unfold TermL.v at h ⊢
  rw [run_eql_struct, h, teq_is]; rfl

end Go.Proofs.YtdnfaoanaehjhaaGreatDoor

/- How many cells the types of arguments take. -/
namespace Go.Proofs.YtdnfaoanaehjhaaGreatDoor

set_option maxRecDepth 100000 in
theorem Tryz.cellsString : Tryz.prog.cellsOf 9 = 1 := by kernel_rfl
set_option maxRecDepth 100000 in
theorem Tryz.cellsInt : Tryz.prog.cellsOf 3 = 1 := by kernel_rfl
set_option maxRecDepth 100000 in
theorem Tryz.cellsTerm : Tryz.prog.cellsOf 37 = 4 := by kernel_rfl

end Go.Proofs.YtdnfaoanaehjhaaGreatDoor

/- Maps of numbers, by texts and by terms, in plain words: what they tell of each key; how they are made, asked, written, measured. -/
namespace Go.Proofs.YtdnfaoanaehjhaaGreatDoor
open Go.RowKit Go.Maps Go.WideMaps

/- a sort of keys -/
structure KeyG (T : TypeId) {α : Type} (ok : α → Prop) (code : α → List UInt8) (val : α → Value) : Prop where
  law : Keyed Tryz.prog T
  key : ∀ {x : α}, ok x → keyOf Tryz.prog T (val x) = some (.string (code x))
  one : ∀ {x y : α}, ok x → ok y → code x = code y → x = y

theorem zeroI (w : World) : (zeroValue 3).run Tryz.prog w = .ok (.int .i64 0) w := by kernel_rfl
noncomputable abbrev plainI : Value → Option (DataW Unit × List MemPlace) := plainElem Tryz.prog 3

/- block b is a map of s entries that tells of each key what f tells -/
def MapG (T : TypeId) {α : Type} (ok : α → Prop) (code : α → List UInt8) (w : World) (b s : Nat) (f : α → Option Int) : Prop :=
  ∃ D : DataW Unit, w.ownsMap Tryz.prog T plainI b s D ∧ Maps.size D = s ∧ ∀ x, ok x → Maps.has D (.string (code x)) = (f x).isSome ∧ D.atKey (.string (code x)) (.lit (.int .i64 0)) = .lit (.int .i64 ((f x).getD 0))
def updG {α : Type} [DecidableEq α] (f : α → Option Int) (k : α) (v : Option Int) : α → Option Int := fun x => if x = k then v else f x

section
variable {T : TypeId} {α : Type} {ok : α → Prop} {code : α → List UInt8} {val : α → Value} {w w' : World} {b s : Nat} {f : α → Option Int}

theorem MapG.lt (h : MapG T ok code w b s f) : b < w.heap.size := by obtain ⟨D, h1, _⟩ := h; exact h1.lt
theorem MapG.stay {K : Nat → Prop} (h : MapG T ok code w b s f) (hs : Stay K w w') (hk : K b) : MapG T ok code w' b s f := by
  obtain ⟨D, ⟨es, c, hb, r⟩, h2⟩ := h
  exact ⟨D, ⟨es, c, by rw [hs.block b (Array.getElem?_eq_some_iff.1 hb).1 hk]; exact hb, r⟩, h2⟩
theorem MapG.on (h : MapG T ok code w b s f) (hb : Below w.heap.size w w') : MapG T ok code w' b s f := h.stay (K := fun _ => True) (stay_below hb) trivial
theorem MapG.kept {row : Option Nat} (h : MapG T ok code w b s f) (hg : w.grownBy w' row) (hne : some b ≠ row) : MapG T ok code w' b s f := by
  obtain ⟨D, h1, h2⟩ := h
  exact ⟨D, h1.kept hg hne, h2⟩
theorem map_made (T : TypeId) {α : Type} (ok : α → Prop) (code : α → List UInt8) (w : World) : MapG T ok code (w.alloc (.map #[] 0)) w.heap.size 0 (fun _ => none) :=
  ⟨.map [], World.ownsMap_made _ _ _ _, rfl, fun _ _ => ⟨rfl, rfl⟩⟩
theorem MapG.ext {g : α → Option Int} (h : MapG T ok code w b s f) (hfg : ∀ x, ok x → f x = g x) : MapG T ok code w b s g := by
  obtain ⟨D, h1, h2, h3⟩ := h
  exact ⟨D, h1, h2, fun x hx => by rw [← hfg x hx]; exact h3 x hx⟩

variable {ops : Array Oper} {rest : List Oper} {o : Oper} {a : Act} {Q : Exit → Act → World → Prop}

theorem wpList_look_g (hg : o.guard = none) (m x : Operand) (t : TypeId) (hop : o.op = Op.lookup t m x true) (K : KeyG T ok code val) (ht : Tryz.prog.underlying t = some (.map T 3)) (hm : a.eval m = .map (some b)) (hown : MapG T ok code w b s f)
    (k : α) (hk : ok k) (hx : a.eval x = val k) (hK : wpList Tryz.prog ops Q rest (a.put o.dst (.tuple #[.int .i64 ((f k).getD 0), .bool (f k).isSome])) w) : wpList Tryz.prog ops Q (o :: rest) a w := by
  obtain ⟨D, h1, h2, h3⟩ := hown
  refine wpList_lookup_own_ok_int w hg m x t hop T 3 .i64 K.law ht Tryz.underlying3 (zeroI w) b s D hm h1 _ _ hx (K.key hk) (fun c hc _ => ?_)
  obtain ⟨h4, h5⟩ := h3 k hk
  rw [h5] at hc
  have e : (f k).getD 0 = c := by simpa using hc
  rw [h4, ← e]
  exact hK
theorem wpList_see_g (hg : o.guard = none) (m x : Operand) (t : TypeId) (hop : o.op = Op.lookup t m x false) (K : KeyG T ok code val) (ht : Tryz.prog.underlying t = some (.map T 3)) (hm : a.eval m = .map (some b)) (hown : MapG T ok code w b s f)
    (k : α) (hk : ok k) (hx : a.eval x = val k) (hK : wpList Tryz.prog ops Q rest (a.put o.dst (.int .i64 ((f k).getD 0))) w) : wpList Tryz.prog ops Q (o :: rest) a w := by
  obtain ⟨D, h1, h2, h3⟩ := hown
  refine wpList_lookup_own_int w hg m x t hop T 3 .i64 K.law ht Tryz.underlying3 (zeroI w) b s D hm h1 _ _ hx (K.key hk) (fun c hc _ => ?_)
  obtain ⟨h4, h5⟩ := h3 k hk
  rw [h5] at hc
  have e : (f k).getD 0 = c := by simpa using hc
  rw [← e]
  exact hK
theorem wpList_len_g (hg : o.guard = none) (m : Operand) (t : TypeId) (hop : o.op = Op.call { callee := Callee.builtin Builtin.len, args := #[m], argTypes := #[t] }) (ht : Tryz.prog.underlying t = some (.map T 3)) (hm : a.eval m = .map (some b)) (hown : MapG T ok code w b s f)
    (hK : wpList Tryz.prog ops Q rest (a.put o.dst (.int .i64 s)) w) : wpList Tryz.prog ops Q (o :: rest) a w := by
  obtain ⟨D, h1, h2, h3⟩ := hown
  refine wpList_len_own w hg m t hop T 3 ht plainI b s D hm h1 ?_
  rw [h2]; exact hK
theorem run_len_g {t : TypeId} (ht : Tryz.prog.underlying t = some (.map T 3)) (hown : MapG T ok code w b s f) (ty : TypeId) : (Builtin.len_ #[t] ty #[.map (some b)]).run Tryz.prog w = .ok (.int .i64 s) w := by
  obtain ⟨D, h1, h2, h3⟩ := hown
  rw [h1.len ht ty, h2]

variable [DecidableEq α]
theorem wpList_put_g (hg : o.guard = none) (m x v : Operand) (t : TypeId) (hop : o.op = Op.mapUpdate t m x v) (K : KeyG T ok code val) (ht : Tryz.prog.underlying t = some (.map T 3)) (hm : a.eval m = .map (some b)) (hown : MapG T ok code w b s f) (hs : s < maxLen)
    (k : α) (hk : ok k) (hx : a.eval x = val k) (c : Int) (hv : a.eval v = .int .i64 c) (hc : (Lit.int .i64 c).wf = true)
    (hK : ∀ w', MapG T ok code w' b (if (f k).isSome then s else s + 1) (updG f k (some c)) → w.grownBy w' (some b) → wpList Tryz.prog ops Q rest (a.put o.dst undef) w') : wpList Tryz.prog ops Q (o :: rest) a w := by
  obtain ⟨D, h1, h2, h3⟩ := hown
  refine wpList_mapUpdate_own w hg m x v t hop T 3 K.law ht plainI b s D hm h1 hs _ _ _ hx hv (K.key hk) (.lit (.int .i64 c)) [] (plainElem_int Tryz.underlying3 hc) (fun w' h4 h5 => hK w' ?_ h5)
  have hkl := K.law.key (K.key hk)
  have hsz : Maps.size (D.put (.string (code k)) (.lit (.int .i64 c))) = if (f k).isSome then s else s + 1 := by
    rw [size_put (h1.tidy K.law), (h3 k hk).1, h2]
  refine ⟨_, ?_, hsz, fun y hy => ?_⟩
  · obtain ⟨es, cl, hb, F, _, hD⟩ := h4
    refine ⟨es, cl, hb, F, ?_, hD⟩
    rw [← hsz, hD]
    simp [Maps.size, length_sorted]
  · unfold updG
    by_cases e : y = k
    · subst e
      rw [if_pos rfl, has_put_same h1.isMap hkl, atKey_put_same h1.isMap hkl]
      exact ⟨rfl, rfl⟩
    · have hne : Lit.string (code y) ≠ Lit.string (code k) := fun h => e (K.one hy hk (by simpa using h))
      rw [if_neg e, has_put_other hne, atKey_put_other hne]
      exact h3 y hy
theorem wpList_del_g (hg : o.guard = none) (m x : Operand) (t : TypeId) (hop : o.op = Op.call { callee := Callee.builtin Builtin.delete, args := #[m, x], argTypes := #[t, T] }) (K : KeyG T ok code val) (ht : Tryz.prog.underlying t = some (.map T 3)) (hm : a.eval m = .map (some b)) (hown : MapG T ok code w b s f)
    (k : α) (hk : ok k) (hx : a.eval x = val k)
    (hK : ∀ w', MapG T ok code w' b (if (f k).isSome then s - 1 else s) (updG f k none) → w.grownBy w' (some b) → wpList Tryz.prog ops Q rest (a.put o.dst (.tuple #[])) w') : wpList Tryz.prog ops Q (o :: rest) a w := by
  obtain ⟨D, h1, h2, h3⟩ := hown
  refine wpList_delete_own w hg m x t T hop 3 K.law ht plainI b s D hm h1 _ _ hx (K.key hk) (fun w' h4 h5 => hK w' ?_ h5.grown)
  have hsz : Maps.size (D.del (.string (code k))) = if (f k).isSome then s - 1 else s := by
    have := size_del (k := .string (code k)) (h1.tidy K.law)
    rw [(h3 k hk).1, h2] at this
    split at this
    · rename_i e; rw [if_pos e]; omega
    · rename_i e; rw [if_neg e]; omega
  refine ⟨_, ?_, hsz, fun y hy => ?_⟩
  · obtain ⟨es, cl, hb, F, _, hD⟩ := h4
    refine ⟨es, cl, hb, F, ?_, hD⟩
    rw [← hsz, hD]
    simp [Maps.size, length_sorted]
  · unfold updG
    by_cases e : y = k
    · subst e
      rw [if_pos rfl, has_del_same, atKey_del_same]
      exact ⟨rfl, rfl⟩
    · have hne : Lit.string (code y) ≠ Lit.string (code k) := fun h => e (K.one hy hk (by simpa using h))
      rw [if_neg e, has_del_other hne, atKey_del_other hne]
      exact h3 y hy
end

/- texts as keys -/
def okS (x : List UInt8) : Prop := (bs x).size ≤ maxLen
theorem keyS : KeyG 9 okS (fun x => x) (fun x => .string (bs x)) := ⟨string_keyed Tryz.underlying9, fun h => keyOf_string_mk Tryz.underlying9 h, fun _ _ h => h⟩
abbrev MapS (w : World) (b s : Nat) (f : List UInt8 → Option Int) : Prop := MapG 9 okS (fun x => x) w b s f

/- terms as keys -/
def okT (t : TermL) : Prop := t.ok ∧ (Lit.int .i64 t.k).wf = true
set_option maxRecDepth 100000 in
theorem Tryz.laid : laidOutB Tryz.prog = true := by kernel_rfl
set_option maxRecDepth 100000 in
theorem Tryz.rowT : (37 : TypeId) < Tryz.prog.types.size := of_decide_eq_true (by kernel_rfl)
set_option maxRecDepth 100000 in
theorem Tryz.deepT : Tryz.prog.keyTypeAt 3 37 = true := by kernel_rfl
set_option maxRecDepth 100000 in
theorem Tryz.deepT2 : Tryz.prog.keyType 37 = true := by kernel_rfl
set_option maxRecDepth 100000 in
theorem Tryz.wideT : (match Tryz.prog.underlying 37 with | some (.array _ _) | some (.struct _) => true | _ => false) = true := by kernel_rfl
set_option maxRecDepth 100000 in
theorem Tryz.lawT : KeyLaw Tryz.prog 37 := deep_law_laid Tryz.laid (m := 3) (by omega) Tryz.rowT Tryz.deepT Tryz.wideT
noncomputable def codeT (t : TermL) : List UInt8 := keyBytes [.int .i64 t.k, .string t.x, .string t.y, .string t.z]
theorem keyOf_term {t : TermL} (h : okT t) : keyOf Tryz.prog 37 t.v = some (.string (codeT t)) := by
  obtain ⟨⟨h1, h2, h3⟩, h4⟩ := h
  have hf : t.v.formed Tryz.prog 37 = true := by simp [TermL.v, Value.formed, Tryz.underlying37, Tryz.cellsTerm]
  have hl : Tryz.prog.keyLits (Tryz.prog.types.size + 1) 37 t.v.cells.toList = some [.int .i64 t.k, .string t.x, .string t.y, .string t.z] := by
    have hlt := Tryz.rowT
    obtain ⟨n, hn⟩ : ∃ n, Tryz.prog.types.size = n + 1 := by
      cases h : Tryz.prog.types.size with
      | zero => rw [h] at hlt; exact absurd hlt (Nat.not_lt_zero _)
      | succ n => exact ⟨n, rfl⟩
    rw [hn]
    simp [Program.keyLits, TermL.v, Value.cells, Tryz.underlying37, Tryz.cellsTerm, Tryz.cellsInt, Tryz.cellsString, Tryz.underlying3, Tryz.underlying9, h1, h2, h3, h4, bs_data]
  unfold keyOf
  rw [Tryz.underlying37]
  simp only [Tryz.deepT2, hf, Bool.and_self, if_true, hl, Option.map_some]
  rfl
theorem termV_inj {t u : TermL} (h : t.v = u.v) : t = u := by
  cases t; cases u
  simp only [TermL.v, Value.agg.injEq, Array.mk.injEq, List.cons.injEq, Value.int.injEq, Value.string.injEq, true_and, and_true, bs_inj] at h
  obtain ⟨rfl, rfl, rfl, rfl⟩ := h
  rfl
theorem keyT : KeyG 37 okT codeT TermL.v := ⟨Keyed.of_law Tryz.lawT, fun h => keyOf_term h, fun hx hy h => termV_inj (Tryz.lawT.inj (keyOf_term hx) (by rw [h]; exact keyOf_term hy))⟩
abbrev MapT (w : World) (b s : Nat) (f : TermL → Option Int) : Prop := MapG 37 okT codeT w b s f

end Go.Proofs.YtdnfaoanaehjhaaGreatDoor

/- The place of each variable, as a map: package table's and package shape's columnsOf. -/
namespace Go.Proofs.YtdnfaoanaehjhaaGreatDoor
open Go.RowKit Go.Maps

theorem run_makeMapH (n : Int) (w : World) : (Instr.makeMap 62 (some (.int .i64 n))).run Tryz.prog w = .ok (.map (some w.heap.size)) (w.alloc (.map #[] 0)) := by kernel_rfl
theorem upd_put (f : List UInt8 → Option Int) (x : List UInt8) (v : Option Int) : updG f x v = putC f x v := rfl
theorem wf_nat {n : Nat} (h : n ≤ 9223372036854775807) : (Lit.int .i64 (n : Int)).wf = true := by
  have h1 : IntKind.i64.min = -9223372036854775808 := by decide
  have h2 : IntKind.i64.max = 9223372036854775807 := by decide
  simp only [Lit.wf, h1, h2, Bool.and_eq_true, decide_eq_true_eq]
  omega
/- what the loop keeps -/
def ColR (w : World) (b : Nat) (L : List (List UInt8)) (k : Nat) (wr : World) : Prop := MapS wr b (cntL (L.take k)) (colF (L.take k)) ∧ Below w.heap.size w wr
theorem ColR.next {w wr w1 : World} {b k : Nat} {L : List (List UInt8)} (h : ColR w b L k wr) (hk : k < L.length) (hb : w.heap.size ≤ b) (h1 : MapS w1 b (if (colF (L.take k) L[k]).isSome then cntL (L.take k) else cntL (L.take k) + 1) (updG (colF (L.take k)) L[k] (some (k : Int)))) (hg : wr.grownBy w1 (some b)) : ColR w b L (k + 1) w1 := by
  refine ⟨?_, h.2.grown hg h.2.size (fun j hj => by cases hj; exact hb)⟩
  have e : (L.take k).length = k := by rw [List.length_take]; omega
  rw [List.take_succ_eq_append_getElem hk, cnt_snoc, colF_snoc, e]
  rw [upd_put, colF_some] at h1
  simpa using h1

set_option maxRecDepth 100000 in
set_option maxHeartbeats 2000000 in
theorem tcols_calls (L : List (List UInt8)) (hL : ∀ x ∈ L, okS x) (a : Option Addr) (n c : Nat) (w : World) (h : TxtA w a n c L) :
    Calls Tryz.prog 86 #[.slice a n c] w fun e w' => ∃ b, e = .returned (.map (some b)) ∧ b = w.heap.size ∧ MapS w' b (cntL L) (colF L) ∧ Below w.heap.size w w' := by
  have HV := Lib.hid h
  have HOK := Lib.hid hL
  have HL := Lib.hid h.len
  have hcp := h.cap
  have hms := h.most
  unfold maxLen at hms
  obtain ⟨B, hB⟩ : ∃ B, B = w.heap.size := ⟨_, rfl⟩
  have HM0 := Lib.hid (show ColR w B L 0 (w.alloc (.map #[] 0)) from ⟨by rw [hB, List.take_zero]; exact map_made _ _ _ w, box_below _ _⟩)
  have HBS := Lib.hid hB
  have hmm := fun W => run_makeMapH (n : Int) W
  clear h hL hB
  go_enter Tryz.func86, Tryz.ntmps86
  go_wp2
  rw [← HBS.out]
  clear hmm
  go_loopg [4, 5, 11] n (fun g _ _ i wr => ∃ k : Nat, i = .int .i64 k ∧ k + g = n ∧ Hid (ColR w B L k wr))
  case atStart => exact ⟨0, rfl, by omega, HM0⟩
  case round =>
    obtain ⟨W1, rfl⟩ : ∃ W1, W1 = wr := ⟨_, rfl⟩
    obtain ⟨k, rfl, hkg, HR⟩ := hrel
    by_cases hk : k < n
    · have hkL : k < L.length := by rw [HL.out]; exact hk
      obtain ⟨gg, rfl⟩ : ∃ gg, gk = gg + 1 := ⟨gk - 1, by omega⟩
      obtain ⟨g, o, ha, hgw, hcells⟩ := HV.out.cells (by omega)
      subst ha
      have hgW : g < W1.heap.size := Nat.lt_of_lt_of_le hgw HR.out.2.size
      have c0 := (HR.out.2.cell (p := ⟨g, o + k, none⟩) hgw).trans (hcells k hkL)
      have hok := Lib.hid (HOK.out _ (List.getElem_mem hkL))
      have HS := Lib.hid (show cntL (L.take k) < maxLen by
        have := cnt_le (L.take k)
        rw [List.length_take] at this
        unfold maxLen
        omega)
      have HWF := Lib.hid (wf_nat (n := k) (by omega))
      have HNX := Lib.hid (fun w1 h1 h2 => HR.out.next (w1 := w1) hkL (by rw [HBS.out]; exact Nat.le_refl _) h1 h2)
      clear hcells
      generalize L[k] = y at c0 hok HNX
      have k0 : (0 : Int) ≤ (k : Int) := by omega
      have k1 : (k : Int) < (n : Int) := by omega
      go_wp2_with (first | (at_mapUpdate; refine wpList_put_g rfl _ _ _ 62 rfl keyS Tryz.underlying62 rfl HR.out.1 HS.out y hok.out rfl (k : Int) rfl HWF.out ?_; intro w1 h1 h2; have HN2 := Lib.hid (HNX.out w1 h1 h2); clear h1 h2) | go_in)
      go_roundg gg
      case measure => omega
      case rel => exact ⟨k + 1, by go_num, by omega, HN2⟩
    · have HE := Lib.hid (show L.take k = L from List.take_of_length_le (by rw [HL.out]; omega))
      have k1 : ¬ (k : Int) < (n : Int) := by omega
      go_wp2
      go_ret
      have hr := HR.out
      unfold ColR at hr
      rw [HE.out] at hr
      exact ⟨B, rfl, HBS.out, hr.1, hr.2⟩

end Go.Proofs.YtdnfaoanaehjhaaGreatDoor

/- Is there one of which a function says yes? (slices.IndexFunc, slices.ContainsFunc.) -/
namespace Go.Proofs.YtdnfaoanaehjhaaGreatDoor
open Go.RowKit Go.Shelf

theorem anyN_next {α : Type} {p : α → Bool} {l : List α} {k : Nat} (h : (l.take k).any p = false) (hk : k < l.length) (h1 : p l[k] = false) : (l.take (k + 1)).any p = false := by
  rw [List.take_succ_eq_append_getElem hk, List.any_append, h]; simp [h1]
theorem anyN_hit {α : Type} {p : α → Bool} {l : List α} {k : Nat} (hk : k < l.length) (h1 : p l[k] = true) : l.any p = true := List.any_eq_true.2 ⟨_, List.getElem_mem hk, h1⟩
theorem anyN_end {α : Type} {p : α → Bool} {l : List α} {k : Nat} (h : (l.take k).any p = false) (hk : l.length ≤ k) : l.any p = false := by rwa [List.take_of_length_le hk] at h

set_option maxRecDepth 100000 in
set_option maxHeartbeats 4000000 in
theorem idxR_calls (L : List (List TermL)) (p : (List TermL) → Bool) (gf : Nat) (lb : Array Value) (eg : ∀ args w, (callFunc gf args).run Tryz.prog w = .ok (.enter gf args) w) (a : Option Addr) (n c : Nat) (w : World) (hv : RowA w a n c L)
    (hp : ∀ W (j : Nat) (h : j < L.length) (a' : Option Addr) (c' : Nat), Below w.heap.size w W → TrmA W a' L[j].length c' L[j] → Calls Tryz.prog gf (#[.slice a' L[j].length c'] ++ lb) W fun e w' => e = .returned (.bool (p L[j])) ∧ Below W.heap.size W w') :
    Calls Tryz.prog 88 #[.slice a n c, .func (.func gf) #[] lb] w fun e w' => ∃ r : Int, e = .returned (.int .i64 r) ∧ decide (0 ≤ r) = L.any p ∧ Below w.heap.size w w' := by
  have HV := Lib.hid hv
  have HP := Lib.hid hp
  have HL := Lib.hid hv.len
  have hcp := hv.cap
  have hms := hv.most
  unfold maxLen at hms
  clear hv hp
  go_enter Tryz.func88, Tryz.ntmps88
  go_wp2
  go_loopg [5, 8] n (fun g _ i wr => ∃ k : Nat, i = .int .i64 k ∧ k + g = n ∧ Hid ((L.take k).any p = false) ∧ Hid (Below w.heap.size w wr))
  case atStart => exact ⟨0, rfl, by omega, Lib.hid rfl, Lib.hid (Below.refl _ _)⟩
  case round =>
    obtain ⟨W1, rfl⟩ : ∃ W1, W1 = wr := ⟨_, rfl⟩
    obtain ⟨k, rfl, hkg, HR, HB⟩ := hrel
    by_cases hk : k < n
    · have hkL : k < L.length := by rw [HL.out]; exact hk
      obtain ⟨gg, rfl⟩ : ∃ gg, gk = gg + 1 := ⟨gk - 1, by omega⟩
      obtain ⟨g, o, ha, hgw, hcells⟩ := HV.out.cells (by omega)
      subst ha
      have hgW : g < W1.heap.size := Nat.lt_of_lt_of_le hgw HB.out.size
      obtain ⟨a', c', hcell, htrm⟩ := hcells k hkL
      have c0 := (HB.out.cell (p := ⟨g, o + k, none⟩) hgw).trans hcell
      have HC := Lib.hid (HP.out W1 k hkL a' c' HB.out (htrm.on HB.out))
      have HHIT := Lib.hid (fun h1 => anyN_hit (p := p) hkL h1)
      have HNX := Lib.hid (fun h1 => anyN_next (p := p) HR.out hkL h1)
      clear hcells
      clear hcell htrm
      generalize L[k] = y at c0 HC HHIT HNX
      have k0 : (0 : Int) ≤ (k : Int) := by omega
      have k1 : (k : Int) < (n : Int) := by omega
      cases hq : p y with
      | true =>
        rw [hq] at HC HNX HHIT
        have HE := Lib.hid (HHIT.out rfl)
        clear HNX HHIT hq
        go_wp2_with (go_at_fn gf; refine HC.out.mono ?_; rintro e w2 ⟨rfl, hb2⟩; have HB2 := Lib.hid (HB.out.trans (hb2.mono HB.out.size)); clear hb2)
        go_ret
        exact ⟨k, rfl, by rw [HE.out]; exact decide_eq_true k0, HB2.out⟩
      | false =>
        rw [hq] at HC HNX HHIT
        have HN2 := Lib.hid (HNX.out rfl)
        clear HNX HHIT hq
        go_wp2_with (go_at_fn gf; refine HC.out.mono ?_; rintro e w2 ⟨rfl, hb2⟩; have HB2 := Lib.hid (HB.out.trans (hb2.mono HB.out.size)); clear hb2)
        go_roundg gg
        case measure => omega
        case rel => exact ⟨k + 1, by go_num, by omega, HN2, HB2⟩
    · have HE := Lib.hid (anyN_end HR.out (by rw [HL.out]; omega))
      have k1 : ¬ (k : Int) < (n : Int) := by omega
      go_wp2
      go_ret
      exact ⟨-1, rfl, by rw [HE.out]; rfl, HB.out⟩
theorem hasR_calls (L : List (List TermL)) (p : (List TermL) → Bool) (gf : Nat) (lb : Array Value) (eg : ∀ args w, (callFunc gf args).run Tryz.prog w = .ok (.enter gf args) w) (a : Option Addr) (n c : Nat) (w : World) (hv : RowA w a n c L)
    (hp : ∀ W (j : Nat) (h : j < L.length) (a' : Option Addr) (c' : Nat), Below w.heap.size w W → TrmA W a' L[j].length c' L[j] → Calls Tryz.prog gf (#[.slice a' L[j].length c'] ++ lb) W fun e w' => e = .returned (.bool (p L[j])) ∧ Below W.heap.size W w') :
    Calls Tryz.prog 59 #[.slice a n c, .func (.func gf) #[] lb] w fun e w' => e = .returned (.bool (L.any p)) ∧ Below w.heap.size w w' := by
  have HC := Lib.hid (idxR_calls L p gf lb eg a n c w hv hp)
  clear hv hp
  go_enter Tryz.func59, Tryz.ntmps59
  go_wp2_with (go_at_call 88; refine HC.out.mono ?_; rintro e w2 ⟨r, rfl, hr, hb2⟩; have HR := Lib.hid hr; clear hr)
  go_ret
  exact ⟨by rw [← HR.out]; rfl, hb2⟩

set_option maxRecDepth 100000 in
set_option maxHeartbeats 4000000 in
theorem idxT_calls (L : List TermL) (p : TermL → Bool) (gf : Nat) (lb : Array Value) (eg : ∀ args w, (callFunc gf args).run Tryz.prog w = .ok (.enter gf args) w) (a : Option Addr) (n c : Nat) (w : World) (hv : TrmA w a n c L)
    (hp : ∀ W (j : Nat) (h : j < L.length), Below w.heap.size w W → Calls Tryz.prog gf (#[L[j].v] ++ lb) W fun e w' => e = .returned (.bool (p L[j])) ∧ Below W.heap.size W w') :
    Calls Tryz.prog 102 #[.slice a n c, .func (.func gf) #[] lb] w fun e w' => ∃ r : Int, e = .returned (.int .i64 r) ∧ decide (0 ≤ r) = L.any p ∧ Below w.heap.size w w' := by
  have HV := Lib.hid hv
  have HP := Lib.hid hp
  have HL := Lib.hid hv.len
  have hcp := hv.cap
  have hms := hv.most
  unfold maxLen at hms
  clear hv hp
  go_enter Tryz.func102, Tryz.ntmps102
  go_wp2
  go_loopg [5, 8] n (fun g _ i wr => ∃ k : Nat, i = .int .i64 k ∧ k + g = n ∧ Hid ((L.take k).any p = false) ∧ Hid (Below w.heap.size w wr))
  case atStart => exact ⟨0, rfl, by omega, Lib.hid rfl, Lib.hid (Below.refl _ _)⟩
  case round =>
    obtain ⟨W1, rfl⟩ : ∃ W1, W1 = wr := ⟨_, rfl⟩
    obtain ⟨k, rfl, hkg, HR, HB⟩ := hrel
    by_cases hk : k < n
    · have hkL : k < L.length := by rw [HL.out]; exact hk
      obtain ⟨gg, rfl⟩ : ∃ gg, gk = gg + 1 := ⟨gk - 1, by omega⟩
      obtain ⟨g, o, ha, hgw, hcells⟩ := HV.out.cells (by omega)
      subst ha
      have hgW : g < W1.heap.size := Nat.lt_of_lt_of_le hgw HB.out.size
      obtain ⟨c0, c1, c2, c3⟩ := (hcells k hkL).on HB.out hgw
      have HC := Lib.hid (HP.out W1 k hkL HB.out)
      have HHIT := Lib.hid (fun h1 => anyN_hit (p := p) hkL h1)
      have HNX := Lib.hid (fun h1 => anyN_next (p := p) HR.out hkL h1)
      clear hcells
      generalize L[k] = y at c0 c1 c2 c3 HC HHIT HNX
      simp only [TermL.v] at HC
      have k0 : (0 : Int) ≤ (k : Int) := by omega
      have k1 : (k : Int) < (n : Int) := by omega
      cases hq : p y with
      | true =>
        rw [hq] at HC HNX HHIT
        have HE := Lib.hid (HHIT.out rfl)
        clear HNX HHIT hq
        go_wp2_with (go_at_fn gf; refine HC.out.mono ?_; rintro e w2 ⟨rfl, hb2⟩; have HB2 := Lib.hid (HB.out.trans (hb2.mono HB.out.size)); clear hb2)
        go_ret
        exact ⟨k, rfl, by rw [HE.out]; exact decide_eq_true k0, HB2.out⟩
      | false =>
        rw [hq] at HC HNX HHIT
        have HN2 := Lib.hid (HNX.out rfl)
        clear HNX HHIT hq
        go_wp2_with (go_at_fn gf; refine HC.out.mono ?_; rintro e w2 ⟨rfl, hb2⟩; have HB2 := Lib.hid (HB.out.trans (hb2.mono HB.out.size)); clear hb2)
        go_roundg gg
        case measure => omega
        case rel => exact ⟨k + 1, by go_num, by omega, HN2, HB2⟩
    · have HE := Lib.hid (anyN_end HR.out (by rw [HL.out]; omega))
      have k1 : ¬ (k : Int) < (n : Int) := by omega
      go_wp2
      go_ret
      exact ⟨-1, rfl, by rw [HE.out]; rfl, HB.out⟩
theorem hasT_calls (L : List TermL) (p : TermL → Bool) (gf : Nat) (lb : Array Value) (eg : ∀ args w, (callFunc gf args).run Tryz.prog w = .ok (.enter gf args) w) (a : Option Addr) (n c : Nat) (w : World) (hv : TrmA w a n c L)
    (hp : ∀ W (j : Nat) (h : j < L.length), Below w.heap.size w W → Calls Tryz.prog gf (#[L[j].v] ++ lb) W fun e w' => e = .returned (.bool (p L[j])) ∧ Below W.heap.size W w') :
    Calls Tryz.prog 89 #[.slice a n c, .func (.func gf) #[] lb] w fun e w' => e = .returned (.bool (L.any p)) ∧ Below w.heap.size w w' := by
  have HC := Lib.hid (idxT_calls L p gf lb eg a n c w hv hp)
  clear hv hp
  go_enter Tryz.func89, Tryz.ntmps89
  go_wp2_with (go_at_call 102; refine HC.out.mono ?_; rintro e w2 ⟨r, rfl, hr, hb2⟩; have HR := Lib.hid hr; clear hr)
  go_ret
  exact ⟨by rw [← HR.out]; rfl, hb2⟩

set_option maxRecDepth 100000 in
set_option maxHeartbeats 4000000 in
theorem idxS_calls (L : List (List UInt8)) (p : List UInt8 → Bool) (gf : Nat) (lb : Array Value) (eg : ∀ args w, (callFunc gf args).run Tryz.prog w = .ok (.enter gf args) w) (a : Option Addr) (n c : Nat) (w : World) (hv : TxtA w a n c L)
    (hp : ∀ W (j : Nat) (h : j < L.length), Below w.heap.size w W → Calls Tryz.prog gf (#[.string (bs L[j])] ++ lb) W fun e w' => e = .returned (.bool (p L[j])) ∧ Below W.heap.size W w') :
    Calls Tryz.prog 65 #[.slice a n c, .func (.func gf) #[] lb] w fun e w' => ∃ r : Int, e = .returned (.int .i64 r) ∧ decide (0 ≤ r) = L.any p ∧ Below w.heap.size w w' := by
  have HV := Lib.hid hv
  have HP := Lib.hid hp
  have HL := Lib.hid hv.len
  have hcp := hv.cap
  have hms := hv.most
  unfold maxLen at hms
  clear hv hp
  go_enter Tryz.func65, Tryz.ntmps65
  go_wp2
  go_loopg [5, 8] n (fun g _ i wr => ∃ k : Nat, i = .int .i64 k ∧ k + g = n ∧ Hid ((L.take k).any p = false) ∧ Hid (Below w.heap.size w wr))
  case atStart => exact ⟨0, rfl, by omega, Lib.hid rfl, Lib.hid (Below.refl _ _)⟩
  case round =>
    obtain ⟨W1, rfl⟩ : ∃ W1, W1 = wr := ⟨_, rfl⟩
    obtain ⟨k, rfl, hkg, HR, HB⟩ := hrel
    by_cases hk : k < n
    · have hkL : k < L.length := by rw [HL.out]; exact hk
      obtain ⟨gg, rfl⟩ : ∃ gg, gk = gg + 1 := ⟨gk - 1, by omega⟩
      obtain ⟨g, o, ha, hgw, hcells⟩ := HV.out.cells (by omega)
      subst ha
      have hgW : g < W1.heap.size := Nat.lt_of_lt_of_le hgw HB.out.size
      have c0 := (HB.out.cell (p := ⟨g, o + k, none⟩) hgw).trans (hcells k hkL)
      have HC := Lib.hid (HP.out W1 k hkL HB.out)
      have HHIT := Lib.hid (fun h1 => anyN_hit (p := p) hkL h1)
      have HNX := Lib.hid (fun h1 => anyN_next (p := p) HR.out hkL h1)
      clear hcells
      generalize L[k] = y at c0 HC HHIT HNX
      have k0 : (0 : Int) ≤ (k : Int) := by omega
      have k1 : (k : Int) < (n : Int) := by omega
      cases hq : p y with
      | true =>
        rw [hq] at HC HNX HHIT
        have HE := Lib.hid (HHIT.out rfl)
        clear HNX HHIT hq
        go_wp2_with (go_at_fn gf; refine HC.out.mono ?_; rintro e w2 ⟨rfl, hb2⟩; have HB2 := Lib.hid (HB.out.trans (hb2.mono HB.out.size)); clear hb2)
        go_ret
        exact ⟨k, rfl, by rw [HE.out]; exact decide_eq_true k0, HB2.out⟩
      | false =>
        rw [hq] at HC HNX HHIT
        have HN2 := Lib.hid (HNX.out rfl)
        clear HNX HHIT hq
        go_wp2_with (go_at_fn gf; refine HC.out.mono ?_; rintro e w2 ⟨rfl, hb2⟩; have HB2 := Lib.hid (HB.out.trans (hb2.mono HB.out.size)); clear hb2)
        go_roundg gg
        case measure => omega
        case rel => exact ⟨k + 1, by go_num, by omega, HN2, HB2⟩
    · have HE := Lib.hid (anyN_end HR.out (by rw [HL.out]; omega))
      have k1 : ¬ (k : Int) < (n : Int) := by omega
      go_wp2
      go_ret
      exact ⟨-1, rfl, by rw [HE.out]; rfl, HB.out⟩
theorem hasS_calls (L : List (List UInt8)) (p : List UInt8 → Bool) (gf : Nat) (lb : Array Value) (eg : ∀ args w, (callFunc gf args).run Tryz.prog w = .ok (.enter gf args) w) (a : Option Addr) (n c : Nat) (w : World) (hv : TxtA w a n c L)
    (hp : ∀ W (j : Nat) (h : j < L.length), Below w.heap.size w W → Calls Tryz.prog gf (#[.string (bs L[j])] ++ lb) W fun e w' => e = .returned (.bool (p L[j])) ∧ Below W.heap.size W w') :
    Calls Tryz.prog 34 #[.slice a n c, .func (.func gf) #[] lb] w fun e w' => e = .returned (.bool (L.any p)) ∧ Below w.heap.size w w' := by
  have HC := Lib.hid (idxS_calls L p gf lb eg a n c w hv hp)
  clear hv hp
  go_enter Tryz.func34, Tryz.ntmps34
  go_wp2_with (go_at_call 65; refine HC.out.mono ?_; rintro e w2 ⟨r, rfl, hr, hb2⟩; have HR := Lib.hid hr; clear hr)
  go_ret
  exact ⟨by rw [← HR.out]; rfl, hb2⟩

end Go.Proofs.YtdnfaoanaehjhaaGreatDoor
