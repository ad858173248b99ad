/- What the walks of layer 15 share: blocks, rows of bytes and texts; the document's tests of bytes. -/
import Derived.Test.YtnfmjkinahbilaaDoorPctPairs
import Derived.Test.YtnfmjkinahbilaaDoorTermJoin
import Derived.Test.YtnfmjkinahbilaaDoorProg
import Derived.WalkKit
import Derived.Lib.Hide
import Derived.Lib.Strings
import Derived.WalkSpells
import Derived.WalkLawsBesides
import Derived.BigQuiet
import Derived.Deep.QuietTactic
import Derived.ChangeAlike
import Derived.Laws.IdiomStrings
import Derived.Lib.UnsafeStr
import Derived.Deep.LoopGhost
namespace Go.Proofs.YtnfmjkinahbilaaDoor
open Go.RowKit

theorem box_below (w : World) (o : Obj) : Below w.heap.size w (w.alloc o) := (Below.refl _ _).alloc (Nat.le_refl _) _
theorem name_world {P : Program} {c : Code} {Q : Exit → Act → World → Prop} {a : Act} {w : World} (h : ∀ W1, W1 = w → c.wp P Q a W1) : c.wp P Q a w := h w rfl
theorem step_below {w w1 w2 : World} (h : Below w.heap.size w w1) (h2 : Below w1.heap.size w1 w2) : Below w.heap.size w w2 := h.trans (h2.mono h.size)
theorem drewN_below {B : Nat} {a w : World} (h : Below B a w) (n : Nat) : Below B a (w.drewN n) := ⟨h.os, h.tape, h.output, h.size, h.block⟩
theorem keptC {w w' : World} {g o B : Nat} {v : Value} (h : w.cell? ⟨g, o, none⟩ = some v) (hb : Below B w w') (hg : g < B) : w'.cell? ⟨g, o, none⟩ = some v := (hb.cell (p := ⟨g, o, none⟩) hg).trans h
theorem fb2 {B : Nat} {W W' W'' : World} (h : Below B W W') (h' : Below W'.heap.size W' W'') (hB : B ≤ W.heap.size) : Below B W W'' := h.trans (h'.mono (Nat.le_trans hB h.size))
theorem join_wp {α β : Type} {F G : α → β → Prop} {P : Prop} (main : (∀ a b, F a b → G a b) → P) (key : ∀ a b, F a b → G a b) : P := main key
theorem row_kept {W W' : World} {B size n : Nat} {e : TypeId} {v : Value} {xs : List Value} (h : W.ownsRow B e size v n xs) (hb : Below W.heap.size W W') : W'.ownsRow B e size v n xs := h.kept (row := none) ⟨hb.os, hb.tape, hb.output, hb.size, fun b hb' _ => hb.block b hb'⟩ (by
  cases hq : v.ownBlock with
  | none => exact .inl rfl
  | some x => exact .inr (by simp))
theorem cell_lt {w : World} {a : Addr} {v : Value} (h : w.cell? a = some v) : a.block < w.heap.size := World.block_lt_of_cell? w a h
theorem drop_bs (s : ByteArray) (a : Nat) : s.extract a s.size = bs (s.data.toList.drop a) := bs_eq (by rw [Lib.extract_data, List.take_of_length_le]; rw [List.length_drop, ← Lib.size_eq]; exact Nat.le_refl _)
theorem piece_bs (s : ByteArray) (a b : Nat) : s.extract a b = bs ((s.data.toList.drop a).take (b - a)) := bs_eq (Lib.extract_data s a b)
theorem row_slice {w : World} {B e size n : Nat} {v : Value} {xs : List Value} (h : w.ownsRow B e size v n xs) : ∃ a cap, v = .slice a n cap := by
  rcases h.2 with ⟨hv, h0⟩ | ⟨g, cap, cur, hv, _⟩
  · subst h0; exact ⟨none, 0, hv⟩
  · exact ⟨_, cap, hv⟩

def Blk (W : World) (X : Nat) (T : TypeId) (a : Array Value) : Prop := W.heap[X]? = some (.cells a T (0, 0))
theorem blk_lt {W : World} {X : Nat} {T : TypeId} {a : Array Value} (h : Blk W X T a) : X < W.heap.size := (Array.getElem?_eq_some_iff.1 h).1
theorem blk_cell {W : World} {X : Nat} {T : TypeId} {a : Array Value} (h : Blk W X T a) (i : Nat) : W.cell? ⟨X, i, none⟩ = a[i]? := by unfold Blk at h; simp [World.cell?, h]
theorem blk_free {W : World} {X : Nat} {T : TypeId} {a : Array Value} (h : Blk W X T a) (i : Nat) : W.frozen? ⟨X, i, none⟩ = false := by unfold Blk at h; simp [World.frozen?, h]
theorem blk_on {W W' : World} {X B : Nat} {T : TypeId} {a : Array Value} (h : Blk W X T a) (hb : Below B W W') (hX : X < B) : Blk W' X T a := by unfold Blk at *; rw [hb.block X hX]; exact h
theorem blk_new (W : World) (T : TypeId) (a : Array Value) : Blk (W.alloc (.cells a T)) W.heap.size T a := heap_alloc_new W _
theorem blk_set {W : World} {X : Nat} {T : TypeId} {a : Array Value} (h : Blk W X T a) (i : Nat) (v : Value) : Blk (W.setCell ⟨X, i, none⟩ v) X T (a.setIfInBounds i v) := by
  have hlt := blk_lt h
  unfold Blk at *
  have h' : W.heap[X] = .cells a T (0, 0) := by simpa [Array.getElem?_eq_getElem hlt] using h
  show (W.heap.modify X _)[X]? = _
  rw [Array.getElem?_eq_getElem (by simpa using hlt), Array.getElem_modify_self, h']
  rfl
theorem below_set {B : Nat} {a W : World} (h : Below B a W) {X : Nat} (hX : B ≤ X) (i : Nat) (v : Value) : Below B a (W.setCell ⟨X, i, none⟩ v) := h.setCell hX v

theorem rowOn {w w' : World} {B size n : Nat} {e : TypeId} {v : Value} {xs : List Value} (h : w.ownsRow B e size v n xs) (hb : Below w.heap.size w w') : w'.ownsRow B e size v n xs := by
  refine ⟨h.1, ?_⟩
  rcases h.2 with h0 | ⟨g, cap, cur, hv, hg, hh, r⟩
  · exact .inl h0
  · exact .inr ⟨g, cap, cur, hv, hg, by rw [hb.block g (Array.getElem?_eq_some_iff.1 hh).1]; exact hh, r⟩

theorem blk_alloc {W : World} {X : Nat} {T : TypeId} {a : Array Value} (h : Blk W X T a) (o : Obj) : Blk (W.alloc o) X T a := blk_on h (box_below W o) (blk_lt h)

theorem add_at0 (g o j : Nat) : (⟨g, o, none⟩ : Addr).add j = ⟨g, o + j, none⟩ := by unfold Addr.add; split <;> simp_all
theorem news_gen (W : World) (T : TypeId) (cs : List Value) {X : Nat} (hX : X = W.heap.size) : ∀ n u, cs[n]? = some u → (W.alloc (.cells cs.toArray T)).cell? ((⟨X, 0, none⟩ : Addr).add n) = some u := by
  subst hX
  intro n u hu
  rw [add_at0, Nat.zero_add, blk_cell (blk_new W T cs.toArray)]
  simpa using hu
theorem info_byte : (Tryd.prog.info? 5).map (fun i => (i.zero, i.size, i.bytes)) = some (some (.int .u8 0), 1, 1) := by kernel_rfl
theorem conv_nil (W : World) : (Go.convert 52 9 (.slice none 0 0)).run Tryd.prog W = .ok (.string ⟨#[]⟩) W := by kernel_rfl
theorem conv_own {w : World} {B n : Nat} {v : Value} {l : List UInt8} (h : w.ownsRow B 5 1 v n (Lib.byteCells l)) : (Go.convert 52 9 v).run Tryd.prog w = .ok (.string (bs l)) w := by
  have hl : l.length = n := by have := h.1; rw [Lib.byteCells_length] at this; omega
  rcases h.2 with ⟨rfl, h0⟩ | ⟨g, cap, cur, rfl, _⟩
  · have : l = [] := List.eq_nil_of_length_eq_zero (by omega)
    subst this
    exact conv_nil w
  · have := run_convert_bytes_back (P := Tryd.prog) w 52 9 5 ⟨g, 0, none⟩ cap l Tryd.underlying52 Tryd.underlying5 Tryd.underlying9 (fun j hj => h.cells (g := g) rfl j _ (by unfold Lib.byteCells; simp [hj]))
    rw [hl] at this
    exact this
def hasB (b : Int) (l : List UInt8) : Bool := l.any fun c => decide ((c.toNat : Int) = b)
def allB (p : Int → Bool) (l : List UInt8) : Bool := l.all fun c => p (c.toNat : Int)
theorem hasB_step (b : Int) (l : List UInt8) (k : Nat) (h : k < l.length) : hasB b (l.drop k) = (decide ((l[k].toNat : Int) = b) || hasB b (l.drop (k + 1))) := by
  rw [List.drop_eq_getElem_cons h]; rfl
theorem hasB_end (b : Int) (l : List UInt8) (k : Nat) (h : l.length ≤ k) : hasB b (l.drop k) = false := by
  rw [List.drop_eq_nil_of_le h]; rfl
theorem allB_step (p : Int → Bool) (l : List UInt8) (k : Nat) (h : k < l.length) : allB p (l.drop k) = (p (l[k].toNat : Int) && allB p (l.drop (k + 1))) := by
  rw [List.drop_eq_getElem_cons h]; rfl
theorem allB_end (p : Int → Bool) (l : List UInt8) (k : Nat) (h : l.length ≤ k) : allB p (l.drop k) = true := by
  rw [List.drop_eq_nil_of_le h]; rfl
theorem get_list (s : ByteArray) (k : Nat) (h : k < s.size) : (s.data.toList[k]'(by simpa using h)) = s[k]'h := by simp; rfl

def betw (f b t : Int) : Bool := decide (f ≤ b ∧ b ≤ t)

set_option maxHeartbeats 400000 in
theorem rBetween_calls (b f t : Int) (w : World) :
    Calls Tryd.prog 45 #[.int .u8 b, .int .u8 f, .int .u8 t] w fun e w' => e = .returned (.bool (betw f b t)) ∧ w' = w := by
  by_cases h1 : f ≤ b <;> by_cases h2 : b ≤ t <;> go_enter Tryd.func45, Tryd.ntmps45 <;> go_wp2 <;> go_ret <;> exact ⟨by simp [betw, *], rfl⟩

set_option maxHeartbeats 400000 in
theorem rIs_calls (b : Int) (s : ByteArray) (w : World) (_hs : s.size ≤ maxLen) :
    Calls Tryd.prog 36 #[.int .u8 b, .string s] w fun e w' => e = .returned (.bool (hasB b s.data.toList)) ∧ w' = w := by
  unfold maxLen at _hs
  go_enter Tryd.func36, Tryd.ntmps36
  go_wp2
  go_loop [5] (fun i => ∃ k : Nat, k ≤ s.size ∧ i = .int .i64 k ∧ Hid (hasB b s.data.toList = hasB b (s.data.toList.drop k))) (fun i => s.size - (intOf i).toNat)
  case atStart => exact ⟨0, Nat.zero_le _, rfl, Lib.hid rfl⟩
  case round =>
    obtain ⟨k, hk, rfl, HL⟩ := hrel
    by_cases hp : k < s.size
    · have h0 := hasB_step b s.data.toList k (by simpa using hp)
      rw [get_list s k hp] at h0
      by_cases hc : (s[k].toNat : Int) = b
      · have g : ((s[k].toNat : Int) == b) = true := beq_iff_eq.2 hc
        have H0 := Lib.hid (h0.trans (by simp [hc]) : _ = true)
        clear h0 hc
        go_wp2
        go_ret
        exact ⟨ret_bool (by rw [HL.out, H0.out]), rfl⟩
      · have g : ((s[k].toNat : Int) == b) = false := beq_eq_false_iff_ne.2 hc
        have H0 := Lib.hid (h0.trans (by simp [hc]) : _ = hasB b (s.data.toList.drop (k + 1)))
        clear h0 hc
        go_wp2
        go_round
        case rel => exact ⟨k + 1, by omega, by go_num, Lib.hid (by rw [HL.out, H0.out])⟩
        case measure => simp [intOf]; omega
    · have H0 := Lib.hid (hasB_end b s.data.toList k (by simpa using (by omega : s.size ≤ k)))
      go_wp2
      go_ret
      exact ⟨ret_bool (by rw [HL.out, H0.out]), rfl⟩

theorem wordZ_atoms (c : Int) : wordZ c = (betw 97 c 122 || betw 65 c 90 || betw 48 c 57 || (c == 95)) := by
  rw [Bool.eq_iff_iff]; simp [wordZ, betw, letterZ, smallZ, bigZ, digitZ] <;> omega

set_option maxHeartbeats 1000000 in
theorem rAll3_calls (s : ByteArray) (w : World) (_hs : s.size ≤ maxLen) :
    Calls Tryd.prog 35 #[.string s, .int .i64 3] w fun e w' => e = .returned (.bool (allB wordZ s.data.toList)) ∧ w' = w := by
  unfold maxLen at _hs
  go_enter Tryd.func35, Tryd.ntmps35
  go_wp2
  go_loop [5] (fun i => ∃ k : Nat, k ≤ s.size ∧ i = .int .i64 k ∧ Hid (allB wordZ s.data.toList = allB wordZ (s.data.toList.drop k))) (fun i => s.size - (intOf i).toNat)
  case atStart => exact ⟨0, Nat.zero_le _, rfl, Lib.hid rfl⟩
  case round =>
    obtain ⟨k, hk, rfl, HL⟩ := hrel
    by_cases hp : k < s.size
    · have h0 := allB_step wordZ s.data.toList k (by simpa using hp)
      rw [get_list s k hp, wordZ_atoms] at h0
      have H0 := Lib.hid h0
      clear h0
      rcases (show (betw 97 (s[k].toNat : Int) 122) = true ∨ (betw 97 (s[k].toNat : Int) 122) = false by cases (betw 97 (s[k].toNat : Int) 122) <;> simp) with hA | hA
      all_goals rcases (show (betw 65 (s[k].toNat : Int) 90) = true ∨ (betw 65 (s[k].toNat : Int) 90) = false by cases (betw 65 (s[k].toNat : Int) 90) <;> simp) with hB | hB
      all_goals rcases (show (betw 48 (s[k].toNat : Int) 57) = true ∨ (betw 48 (s[k].toNat : Int) 57) = false by cases (betw 48 (s[k].toNat : Int) 57) <;> simp) with hC | hC
      all_goals rcases (show (((s[k].toNat : Int) == 95)) = true ∨ (((s[k].toNat : Int) == 95)) = false by cases (((s[k].toNat : Int) == 95)) <;> simp) with hD | hD
      all_goals
        go_wp2_with (first | (go_at_call 45; refine (rBetween_calls _ _ _ _).mono ?_; rintro e w' ⟨rfl, hw⟩; obtain rfl := hw.symm; clear hw) | (go_at_call 36; refine (rIs_calls _ _ _ (by decide)).mono ?_; rintro e w' ⟨rfl, hw⟩; obtain rfl := hw.symm; clear hw; rw [show (ByteArray.mk #[60, 62, 34, 123, 125, 124, 94, 96, 92]).data.toList = [60, 62, 34, 123, 125, 124, 94, 96, 92] from rfl, mark_has]))
        first
        | (go_ret; exact ⟨ret_bool (by rw [HL.out, H0.out]; simp [hA, hB, hC, hD]), rfl⟩)
        | (go_round
           case rel => exact ⟨k + 1, by omega, by go_num, Lib.hid (by rw [HL.out, H0.out]; simp [hA, hB, hC, hD])⟩
           case measure => simp [intOf]; omega)
    · have H0 := Lib.hid (allB_end wordZ s.data.toList k (by simpa using (by omega : s.size ≤ k)))
      go_wp2
      go_ret
      exact ⟨ret_bool (by rw [HL.out, H0.out]), rfl⟩


end Go.Proofs.YtnfmjkinahbilaaDoor
