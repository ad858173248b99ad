/- ShpMap, ShpCols, put together. -/
import Derived.Test.YtkfemnjblbnclaaGreatDoorShpSlice
import Derived.Test.YtkfemnjblbnclaaGreatDoorShpCells
import Derived.Test.YtkfemnjblbnclaaGreatDoorRows
import Derived.Maps.OwnSet
import Derived.Maps.Ext
import Derived.DeepKeys4
import Derived.Carry
import Derived.Test.YtkfemnjblbnclaaGreatDoorGTabs
import Derived.Deep.LoopGhost

/- Maps of numbers, by texts and by terms, in plain words: what they tell of each key; how they are made, asked, written, measured. -/
namespace Go.Proofs.YtkfemnjblbnclaaGreatDoor
open Go.RowKit Go.Maps Go.WideMaps

/- a sort of keys -/
structure KeyG (T : TypeId) {α : Type} (ok : α → Prop) (code : α → List UInt8) (val : α → Value) : Prop where
  law : Keyed Tryz.prog T
  key : ∀ {x : α}, ok x → keyOf Tryz.prog T (val x) = some (.string (code x))
  one : ∀ {x y : α}, ok x → ok y → code x = code y → x = y

theorem zeroI (w : World) : (zeroValue 3).run Tryz.prog w = .ok (.int .i64 0) w := by kernel_rfl
noncomputable abbrev plainI : Value → Option (DataW Unit × List MemPlace) := plainElem Tryz.prog 3

/- block b is a map of s entries that tells of each key what f tells -/
def MapG (T : TypeId) {α : Type} (ok : α → Prop) (code : α → List UInt8) (w : World) (b s : Nat) (f : α → Option Int) : Prop :=
  ∃ D : DataW Unit, w.ownsMap Tryz.prog T plainI b s D ∧ Maps.size D = s ∧ ∀ x, ok x → Maps.has D (.string (code x)) = (f x).isSome ∧ D.atKey (.string (code x)) (.lit (.int .i64 0)) = .lit (.int .i64 ((f x).getD 0))
def updG {α : Type} [DecidableEq α] (f : α → Option Int) (k : α) (v : Option Int) : α → Option Int := fun x => if x = k then v else f x

section
variable {T : TypeId} {α : Type} {ok : α → Prop} {code : α → List UInt8} {val : α → Value} {w w' : World} {b s : Nat} {f : α → Option Int}

theorem MapG.lt (h : MapG T ok code w b s f) : b < w.heap.size := by obtain ⟨D, h1, _⟩ := h; exact h1.lt
theorem MapG.stay {K : Nat → Prop} (h : MapG T ok code w b s f) (hs : Stay K w w') (hk : K b) : MapG T ok code w' b s f := by
  obtain ⟨D, ⟨es, c, hb, r⟩, h2⟩ := h
  exact ⟨D, ⟨es, c, by rw [hs.block b (Array.getElem?_eq_some_iff.1 hb).1 hk]; exact hb, r⟩, h2⟩
theorem MapG.on (h : MapG T ok code w b s f) (hb : Below w.heap.size w w') : MapG T ok code w' b s f := h.stay (K := fun _ => True) (stay_below hb) trivial
theorem MapG.kept {row : Option Nat} (h : MapG T ok code w b s f) (hg : w.grownBy w' row) (hne : some b ≠ row) : MapG T ok code w' b s f := by
  obtain ⟨D, h1, h2⟩ := h
  exact ⟨D, h1.kept hg hne, h2⟩
theorem map_made (T : TypeId) {α : Type} (ok : α → Prop) (code : α → List UInt8) (w : World) : MapG T ok code (w.alloc (.map #[] 0)) w.heap.size 0 (fun _ => none) :=
  ⟨.map [], World.ownsMap_made _ _ _ _, rfl, fun _ _ => ⟨rfl, rfl⟩⟩
theorem MapG.ext {g : α → Option Int} (h : MapG T ok code w b s f) (hfg : ∀ x, ok x → f x = g x) : MapG T ok code w b s g := by
  obtain ⟨D, h1, h2, h3⟩ := h
  exact ⟨D, h1, h2, fun x hx => by rw [← hfg x hx]; exact h3 x hx⟩

variable {ops : Array Oper} {rest : List Oper} {o : Oper} {a : Act} {Q : Exit → Act → World → Prop}

theorem wpList_look_g (hg : o.guard = none) (m x : Operand) (t : TypeId) (hop : o.op = Op.lookup t m x true) (K : KeyG T ok code val) (ht : Tryz.prog.underlying t = some (.map T 3)) (hm : a.eval m = .map (some b)) (hown : MapG T ok code w b s f)
    (k : α) (hk : ok k) (hx : a.eval x = val k) (hK : wpList Tryz.prog ops Q rest (a.put o.dst (.tuple #[.int .i64 ((f k).getD 0), .bool (f k).isSome])) w) : wpList Tryz.prog ops Q (o :: rest) a w := by
  obtain ⟨D, h1, h2, h3⟩ := hown
  refine wpList_lookup_own_ok_int w hg m x t hop T 3 .i64 K.law ht Tryz.underlying3 (zeroI w) b s D hm h1 _ _ hx (K.key hk) (fun c hc _ => ?_)
  obtain ⟨h4, h5⟩ := h3 k hk
  rw [h5] at hc
  have e : (f k).getD 0 = c := by simpa using hc
  rw [h4, ← e]
  exact hK
theorem wpList_see_g (hg : o.guard = none) (m x : Operand) (t : TypeId) (hop : o.op = Op.lookup t m x false) (K : KeyG T ok code val) (ht : Tryz.prog.underlying t = some (.map T 3)) (hm : a.eval m = .map (some b)) (hown : MapG T ok code w b s f)
    (k : α) (hk : ok k) (hx : a.eval x = val k) (hK : wpList Tryz.prog ops Q rest (a.put o.dst (.int .i64 ((f k).getD 0))) w) : wpList Tryz.prog ops Q (o :: rest) a w := by
  obtain ⟨D, h1, h2, h3⟩ := hown
  refine wpList_lookup_own_int w hg m x t hop T 3 .i64 K.law ht Tryz.underlying3 (zeroI w) b s D hm h1 _ _ hx (K.key hk) (fun c hc _ => ?_)
  obtain ⟨h4, h5⟩ := h3 k hk
  rw [h5] at hc
  have e : (f k).getD 0 = c := by simpa using hc
  rw [← e]
  exact hK
theorem wpList_len_g (hg : o.guard = none) (m : Operand) (t : TypeId) (hop : o.op = Op.call { callee := Callee.builtin Builtin.len, args := #[m], argTypes := #[t] }) (ht : Tryz.prog.underlying t = some (.map T 3)) (hm : a.eval m = .map (some b)) (hown : MapG T ok code w b s f)
    (hK : wpList Tryz.prog ops Q rest (a.put o.dst (.int .i64 s)) w) : wpList Tryz.prog ops Q (o :: rest) a w := by
  obtain ⟨D, h1, h2, h3⟩ := hown
  refine wpList_len_own w hg m t hop T 3 ht plainI b s D hm h1 ?_
  rw [h2]; exact hK
theorem run_len_g {t : TypeId} (ht : Tryz.prog.underlying t = some (.map T 3)) (hown : MapG T ok code w b s f) (ty : TypeId) : (Builtin.len_ #[t] ty #[.map (some b)]).run Tryz.prog w = .ok (.int .i64 s) w := by
  obtain ⟨D, h1, h2, h3⟩ := hown
  rw [h1.len ht ty, h2]

variable [DecidableEq α]
theorem wpList_put_g (hg : o.guard = none) (m x v : Operand) (t : TypeId) (hop : o.op = Op.mapUpdate t m x v) (K : KeyG T ok code val) (ht : Tryz.prog.underlying t = some (.map T 3)) (hm : a.eval m = .map (some b)) (hown : MapG T ok code w b s f) (hs : s < maxLen)
    (k : α) (hk : ok k) (hx : a.eval x = val k) (c : Int) (hv : a.eval v = .int .i64 c) (hc : (Lit.int .i64 c).wf = true)
    (hK : ∀ w', MapG T ok code w' b (if (f k).isSome then s else s + 1) (updG f k (some c)) → w.grownBy w' (some b) → wpList Tryz.prog ops Q rest (a.put o.dst undef) w') : wpList Tryz.prog ops Q (o :: rest) a w := by
  obtain ⟨D, h1, h2, h3⟩ := hown
  refine wpList_mapUpdate_own w hg m x v t hop T 3 K.law ht plainI b s D hm h1 hs _ _ _ hx hv (K.key hk) (.lit (.int .i64 c)) [] (plainElem_int Tryz.underlying3 hc) (fun w' h4 h5 => hK w' ?_ h5)
  have hkl := K.law.key (K.key hk)
  have hsz : Maps.size (D.put (.string (code k)) (.lit (.int .i64 c))) = if (f k).isSome then s else s + 1 := by
    rw [size_put (h1.tidy K.law), (h3 k hk).1, h2]
  refine ⟨_, ?_, hsz, fun y hy => ?_⟩
  · obtain ⟨es, cl, hb, F, _, hD⟩ := h4
    refine ⟨es, cl, hb, F, ?_, hD⟩
    rw [← hsz, hD]
    simp [Maps.size, length_sorted]
  · unfold updG
    by_cases e : y = k
    · subst e
      rw [if_pos rfl, has_put_same h1.isMap hkl, atKey_put_same h1.isMap hkl]
      exact ⟨rfl, rfl⟩
    · have hne : Lit.string (code y) ≠ Lit.string (code k) := fun h => e (K.one hy hk (by simpa using h))
      rw [if_neg e, has_put_other hne, atKey_put_other hne]
      exact h3 y hy
theorem wpList_del_g (hg : o.guard = none) (m x : Operand) (t : TypeId) (hop : o.op = Op.call { callee := Callee.builtin Builtin.delete, args := #[m, x], argTypes := #[t, T] }) (K : KeyG T ok code val) (ht : Tryz.prog.underlying t = some (.map T 3)) (hm : a.eval m = .map (some b)) (hown : MapG T ok code w b s f)
    (k : α) (hk : ok k) (hx : a.eval x = val k)
    (hK : ∀ w', MapG T ok code w' b (if (f k).isSome then s - 1 else s) (updG f k none) → w.grownBy w' (some b) → wpList Tryz.prog ops Q rest (a.put o.dst (.tuple #[])) w') : wpList Tryz.prog ops Q (o :: rest) a w := by
  obtain ⟨D, h1, h2, h3⟩ := hown
  refine wpList_delete_own w hg m x t T hop 3 K.law ht plainI b s D hm h1 _ _ hx (K.key hk) (fun w' h4 h5 => hK w' ?_ h5.grown)
  have hsz : Maps.size (D.del (.string (code k))) = if (f k).isSome then s - 1 else s := by
    have := size_del (k := .string (code k)) (h1.tidy K.law)
    rw [(h3 k hk).1, h2] at this
    split at this
    · rename_i e; rw [if_pos e]; omega
    · rename_i e; rw [if_neg e]; omega
  refine ⟨_, ?_, hsz, fun y hy => ?_⟩
  · obtain ⟨es, cl, hb, F, _, hD⟩ := h4
    refine ⟨es, cl, hb, F, ?_, hD⟩
    rw [← hsz, hD]
    simp [Maps.size, length_sorted]
  · unfold updG
    by_cases e : y = k
    · subst e
      rw [if_pos rfl, has_del_same, atKey_del_same]
      exact ⟨rfl, rfl⟩
    · have hne : Lit.string (code y) ≠ Lit.string (code k) := fun h => e (K.one hy hk (by simpa using h))
      rw [if_neg e, has_del_other hne, atKey_del_other hne]
      exact h3 y hy
end

/- texts as keys -/
def okS (x : List UInt8) : Prop := (bs x).size ≤ maxLen
theorem keyS : KeyG 9 okS (fun x => x) (fun x => .string (bs x)) := ⟨string_keyed Tryz.underlying9, fun h => keyOf_string_mk Tryz.underlying9 h, fun _ _ h => h⟩
abbrev MapS (w : World) (b s : Nat) (f : List UInt8 → Option Int) : Prop := MapG 9 okS (fun x => x) w b s f

/- terms as keys -/
def okT (t : TermL) : Prop := t.ok ∧ (Lit.int .i64 t.k).wf = true
set_option maxRecDepth 100000 in
theorem Tryz.laid : laidOutB Tryz.prog = true := by kernel_rfl
set_option maxRecDepth 100000 in
theorem Tryz.rowT : (23 : TypeId) < Tryz.prog.types.size := of_decide_eq_true (by kernel_rfl)
set_option maxRecDepth 100000 in
theorem Tryz.deepT : Tryz.prog.keyTypeAt 3 23 = true := by kernel_rfl
set_option maxRecDepth 100000 in
theorem Tryz.deepT2 : Tryz.prog.keyType 23 = true := by kernel_rfl
set_option maxRecDepth 100000 in
theorem Tryz.wideT : (match Tryz.prog.underlying 23 with | some (.array _ _) | some (.struct _) => true | _ => false) = true := by kernel_rfl
set_option maxRecDepth 100000 in
theorem Tryz.lawT : KeyLaw Tryz.prog 23 := deep_law_laid Tryz.laid (m := 3) (by omega) Tryz.rowT Tryz.deepT Tryz.wideT
noncomputable def codeT (t : TermL) : List UInt8 := keyBytes [.int .i64 t.k, .string t.x, .string t.y, .string t.z]
theorem keyOf_term {t : TermL} (h : okT t) : keyOf Tryz.prog 23 t.v = some (.string (codeT t)) := by
  obtain ⟨⟨h1, h2, h3⟩, h4⟩ := h
  have hf : t.v.formed Tryz.prog 23 = true := by simp [TermL.v, Value.formed, Tryz.underlying23, Tryz.cellsTerm]
  have hl : Tryz.prog.keyLits (Tryz.prog.types.size + 1) 23 t.v.cells.toList = some [.int .i64 t.k, .string t.x, .string t.y, .string t.z] := by
    have hlt := Tryz.rowT
    obtain ⟨n, hn⟩ : ∃ n, Tryz.prog.types.size = n + 1 := by
      cases h : Tryz.prog.types.size with
      | zero => rw [h] at hlt; exact absurd hlt (Nat.not_lt_zero _)
      | succ n => exact ⟨n, rfl⟩
    rw [hn]
    simp [Program.keyLits, TermL.v, Value.cells, Tryz.underlying23, Tryz.cellsTerm, Tryz.cellsInt, Tryz.cellsString, Tryz.underlying3, Tryz.underlying9, h1, h2, h3, h4, bs_data]
  unfold keyOf
  rw [Tryz.underlying23]
  simp only [Tryz.deepT2, hf, Bool.and_self, if_true, hl, Option.map_some]
  rfl
theorem termV_inj {t u : TermL} (h : t.v = u.v) : t = u := by
  cases t; cases u
  simp only [TermL.v, Value.agg.injEq, Array.mk.injEq, List.cons.injEq, Value.int.injEq, Value.string.injEq, true_and, and_true, bs_inj] at h
  obtain ⟨rfl, rfl, rfl, rfl⟩ := h
  rfl
theorem keyT : KeyG 23 okT codeT TermL.v := ⟨Keyed.of_law Tryz.lawT, fun h => keyOf_term h, fun hx hy h => termV_inj (Tryz.lawT.inj (keyOf_term hx) (by rw [h]; exact keyOf_term hy))⟩
abbrev MapT (w : World) (b s : Nat) (f : TermL → Option Int) : Prop := MapG 23 okT codeT w b s f

end Go.Proofs.YtkfemnjblbnclaaGreatDoor

/- The place of each variable, as a map: package table's and package shape's columnsOf. -/
namespace Go.Proofs.YtkfemnjblbnclaaGreatDoor
open Go.RowKit Go.Maps

theorem run_makeMapH (n : Int) (w : World) : (Instr.makeMap 87 (some (.int .i64 n))).run Tryz.prog w = .ok (.map (some w.heap.size)) (w.alloc (.map #[] 0)) := by kernel_rfl
theorem upd_put (f : List UInt8 → Option Int) (x : List UInt8) (v : Option Int) : updG f x v = putC f x v := rfl
theorem wf_nat {n : Nat} (h : n ≤ 9223372036854775807) : (Lit.int .i64 (n : Int)).wf = true := by
  have h1 : IntKind.i64.min = -9223372036854775808 := by decide
  have h2 : IntKind.i64.max = 9223372036854775807 := by decide
  simp only [Lit.wf, h1, h2, Bool.and_eq_true, decide_eq_true_eq]
  omega
/- what the loop keeps -/
def ColR (w : World) (b : Nat) (L : List (List UInt8)) (k : Nat) (wr : World) : Prop := MapS wr b (cntL (L.take k)) (colF (L.take k)) ∧ Below w.heap.size w wr
theorem ColR.next {w wr w1 : World} {b k : Nat} {L : List (List UInt8)} (h : ColR w b L k wr) (hk : k < L.length) (hb : w.heap.size ≤ b) (h1 : MapS w1 b (if (colF (L.take k) L[k]).isSome then cntL (L.take k) else cntL (L.take k) + 1) (updG (colF (L.take k)) L[k] (some (k : Int)))) (hg : wr.grownBy w1 (some b)) : ColR w b L (k + 1) w1 := by
  refine ⟨?_, h.2.grown hg h.2.size (fun j hj => by cases hj; exact hb)⟩
  have e : (L.take k).length = k := by rw [List.length_take]; omega
  rw [List.take_succ_eq_append_getElem hk, cnt_snoc, colF_snoc, e]
  rw [upd_put, colF_some] at h1
  simpa using h1

set_option maxRecDepth 100000 in
set_option maxHeartbeats 2000000 in
theorem tcols_calls (L : List (List UInt8)) (hL : ∀ x ∈ L, okS x) (a : Option Addr) (n c : Nat) (w : World) (h : TxtA w a n c L) :
    Calls Tryz.prog 87 #[.slice a n c] w fun e w' => ∃ b, e = .returned (.map (some b)) ∧ b = w.heap.size ∧ MapS w' b (cntL L) (colF L) ∧ Below w.heap.size w w' := by
  have HV := Lib.hid h
  have HOK := Lib.hid hL
  have HL := Lib.hid h.len
  have hcp := h.cap
  have hms := h.most
  unfold maxLen at hms
  obtain ⟨B, hB⟩ : ∃ B, B = w.heap.size := ⟨_, rfl⟩
  have HM0 := Lib.hid (show ColR w B L 0 (w.alloc (.map #[] 0)) from ⟨by rw [hB, List.take_zero]; exact map_made _ _ _ w, box_below _ _⟩)
  have HBS := Lib.hid hB
  have hmm := fun W => run_makeMapH (n : Int) W
  clear h hL hB
  go_enter Tryz.func87, Tryz.ntmps87
  go_wp2
  rw [← HBS.out]
  clear hmm
  go_loopg [4, 5, 11] n (fun g _ _ i wr => ∃ k : Nat, i = .int .i64 k ∧ k + g = n ∧ Hid (ColR w B L k wr))
  case atStart => exact ⟨0, rfl, by omega, HM0⟩
  case round =>
    obtain ⟨W1, rfl⟩ : ∃ W1, W1 = wr := ⟨_, rfl⟩
    obtain ⟨k, rfl, hkg, HR⟩ := hrel
    by_cases hk : k < n
    · have hkL : k < L.length := by rw [HL.out]; exact hk
      obtain ⟨gg, rfl⟩ : ∃ gg, gk = gg + 1 := ⟨gk - 1, by omega⟩
      obtain ⟨g, o, ha, hgw, hcells⟩ := HV.out.cells (by omega)
      subst ha
      have hgW : g < W1.heap.size := Nat.lt_of_lt_of_le hgw HR.out.2.size
      have c0 := (HR.out.2.cell (p := ⟨g, o + k, none⟩) hgw).trans (hcells k hkL)
      have hok := Lib.hid (HOK.out _ (List.getElem_mem hkL))
      have HS := Lib.hid (show cntL (L.take k) < maxLen by
        have := cnt_le (L.take k)
        rw [List.length_take] at this
        unfold maxLen
        omega)
      have HWF := Lib.hid (wf_nat (n := k) (by omega))
      have HNX := Lib.hid (fun w1 h1 h2 => HR.out.next (w1 := w1) hkL (by rw [HBS.out]; exact Nat.le_refl _) h1 h2)
      clear hcells
      generalize L[k] = y at c0 hok HNX
      have k0 : (0 : Int) ≤ (k : Int) := by omega
      have k1 : (k : Int) < (n : Int) := by omega
      go_wp2_with (first | (at_mapUpdate; refine wpList_put_g rfl _ _ _ 87 rfl keyS Tryz.underlying87 rfl HR.out.1 HS.out y hok.out rfl (k : Int) rfl HWF.out ?_; intro w1 h1 h2; have HN2 := Lib.hid (HNX.out w1 h1 h2); clear h1 h2) | go_in)
      go_roundg gg
      case measure => omega
      case rel => exact ⟨k + 1, by go_num, by omega, HN2⟩
    · have HE := Lib.hid (show L.take k = L from List.take_of_length_le (by rw [HL.out]; omega))
      have k1 : ¬ (k : Int) < (n : Int) := by omega
      go_wp2
      go_ret
      have hr := HR.out
      unfold ColR at hr
      rw [HE.out] at hr
      exact ⟨B, rfl, HBS.out, hr.1, hr.2⟩

set_option maxRecDepth 100000 in
set_option maxHeartbeats 2000000 in
theorem scols_calls (L : List (List UInt8)) (hL : ∀ x ∈ L, okS x) (a : Option Addr) (n c : Nat) (w : World) (h : TxtA w a n c L) :
    Calls Tryz.prog 74 #[.slice a n c] w fun e w' => ∃ b, e = .returned (.map (some b)) ∧ b = w.heap.size ∧ MapS w' b (cntL L) (colF L) ∧ Below w.heap.size w w' := by
  have HV := Lib.hid h
  have HOK := Lib.hid hL
  have HL := Lib.hid h.len
  have hcp := h.cap
  have hms := h.most
  unfold maxLen at hms
  obtain ⟨B, hB⟩ : ∃ B, B = w.heap.size := ⟨_, rfl⟩
  have HM0 := Lib.hid (show ColR w B L 0 (w.alloc (.map #[] 0)) from ⟨by rw [hB, List.take_zero]; exact map_made _ _ _ w, box_below _ _⟩)
  have HBS := Lib.hid hB
  have hmm := fun W => run_makeMapH (n : Int) W
  clear h hL hB
  go_enter Tryz.func74, Tryz.ntmps74
  go_wp2
  rw [← HBS.out]
  clear hmm
  go_loopg [4, 5, 11] n (fun g _ _ i wr => ∃ k : Nat, i = .int .i64 k ∧ k + g = n ∧ Hid (ColR w B L k wr))
  case atStart => exact ⟨0, rfl, by omega, HM0⟩
  case round =>
    obtain ⟨W1, rfl⟩ : ∃ W1, W1 = wr := ⟨_, rfl⟩
    obtain ⟨k, rfl, hkg, HR⟩ := hrel
    by_cases hk : k < n
    · have hkL : k < L.length := by rw [HL.out]; exact hk
      obtain ⟨gg, rfl⟩ : ∃ gg, gk = gg + 1 := ⟨gk - 1, by omega⟩
      obtain ⟨g, o, ha, hgw, hcells⟩ := HV.out.cells (by omega)
      subst ha
      have hgW : g < W1.heap.size := Nat.lt_of_lt_of_le hgw HR.out.2.size
      have c0 := (HR.out.2.cell (p := ⟨g, o + k, none⟩) hgw).trans (hcells k hkL)
      have hok := Lib.hid (HOK.out _ (List.getElem_mem hkL))
      have HS := Lib.hid (show cntL (L.take k) < maxLen by
        have := cnt_le (L.take k)
        rw [List.length_take] at this
        unfold maxLen
        omega)
      have HWF := Lib.hid (wf_nat (n := k) (by omega))
      have HNX := Lib.hid (fun w1 h1 h2 => HR.out.next (w1 := w1) hkL (by rw [HBS.out]; exact Nat.le_refl _) h1 h2)
      clear hcells
      generalize L[k] = y at c0 hok HNX
      have k0 : (0 : Int) ≤ (k : Int) := by omega
      have k1 : (k : Int) < (n : Int) := by omega
      go_wp2_with (first | (at_mapUpdate; refine wpList_put_g rfl _ _ _ 87 rfl keyS Tryz.underlying87 rfl HR.out.1 HS.out y hok.out rfl (k : Int) rfl HWF.out ?_; intro w1 h1 h2; have HN2 := Lib.hid (HNX.out w1 h1 h2); clear h1 h2) | go_in)
      go_roundg gg
      case measure => omega
      case rel => exact ⟨k + 1, by go_num, by omega, HN2⟩
    · have HE := Lib.hid (show L.take k = L from List.take_of_length_le (by rw [HL.out]; omega))
      have k1 : ¬ (k : Int) < (n : Int) := by omega
      go_wp2
      go_ret
      have hr := HR.out
      unfold ColR at hr
      rw [HE.out] at hr
      exact ⟨B, rfl, HBS.out, hr.1, hr.2⟩

end Go.Proofs.YtkfemnjblbnclaaGreatDoor
