/- Messages, and a row of them, in plain words (no program). -/
import Derived.WalkKit
import Derived.Lib.Hide
namespace Go.Proofs.Ytheefhogphlkiaa
open Go.RowKit

structure MsgL where
  f : Int
  t : Int
  b : ByteArray
def noMsg : MsgL := ⟨0, 0, ⟨#[]⟩⟩
instance msgInh : Inhabited MsgL := ⟨noMsg⟩
def MsgL.cs (m : MsgL) : List Value := [.int .i64 m.f, .int .i64 m.t, .string m.b]
def cellsM (l : List MsgL) : List Value := l.flatMap MsgL.cs
theorem cellsM_length (l : List MsgL) : (cellsM l).length = l.length * 3 := by
  induction l with
  | nil => rfl
  | cons t r ih => unfold cellsM at *; rw [List.flatMap_cons, List.length_append, ih]; show 3 + _ = _; rw [List.length_cons]; omega
theorem cellsM_append (l r : List MsgL) : cellsM (l ++ r) = cellsM l ++ cellsM r := List.flatMap_append
theorem cellsM_one (p : MsgL) : cellsM [p] = p.cs := by simp [cellsM]
theorem cellsM_at : ∀ (L : List MsgL) (k : Nat) (hk : k < L.length) (i : Nat), i < 3 → (cellsM L)[k * 3 + i]? = L[k].cs[i]?
  | [], k, hk, _, _ => absurd hk (Nat.not_lt_zero _)
  | t :: L, 0, _, i, hi => by
    show (t.cs ++ cellsM L)[0 * 3 + i]? = _
    rw [List.getElem?_append_left (by show _ < 3; omega), Nat.zero_mul, Nat.zero_add]; rfl
  | t :: L, k + 1, hk, i, hi => by
    show (t.cs ++ cellsM L)[(k + 1) * 3 + i]? = _
    rw [List.getElem?_append_right (by show 3 ≤ _; omega), show (k + 1) * 3 + i - t.cs.length = k * 3 + i by show (k + 1) * 3 + i - 3 = _; omega, cellsM_at L k (by simpa using hk) i hi]
    simp
theorem cellsM_one' (l : List MsgL) : ∀ u ∈ cellsM l, u.oneCell' = true := by
  intro u hu
  unfold cellsM at hu
  obtain ⟨m, _, hm⟩ := List.mem_flatMap.1 hu
  simp only [MsgL.cs, List.mem_cons, List.not_mem_nil, or_false] at hm
  rcases hm with rfl | rfl | rfl <;> rfl
theorem cellsM_three (l : List MsgL) (k : Nat) (hk : k < l.length) : cellsM l = cellsM (l.take k) ++ l[k].cs ++ cellsM (l.drop (k + 1)) := by
  conv => lhs; rw [← List.take_append_drop k l, List.drop_eq_getElem_cons hk]
  rw [show l[k] :: l.drop (k + 1) = [l[k]] ++ l.drop (k + 1) from rfl, cellsM_append, cellsM_append, cellsM_one, List.append_assoc]

/- right messages -/
def endB (n : Int) : Bool := decide (-1 ≤ n ∧ n < 8)
def rightM (m : MsgL) : Bool := decide (((m.f = -1 ∧ 0 ≤ m.t ∧ m.t < 8) ∨ (m.t = -1 ∧ 0 ≤ m.f ∧ m.f < 8)) ∧ m.b.size ≤ 65536)
/- two messages the same -/
def meq (x y : MsgL) : Bool := (x.f == y.f) && (x.t == y.t) && (x.b.toList == y.b.toList)

/- the document's words: a message sent, taken, doubled -/
def sendL (L : List MsgL) (m : MsgL) : List MsgL := if rightM m = true then (if 256 ≤ L.length then L else L ++ [m]) else L
def sendE (L : List MsgL) (m : MsgL) : Int := if rightM m = true then (if 256 ≤ L.length then 3 else 0) else 2
def inB (n : Nat) (i : Int) : Bool := decide (0 ≤ i ∧ i < (n : Int))
def takeL (L : List MsgL) (i : Int) : List MsgL := if inB L.length i = true then L.take i.toNat ++ L.drop (i.toNat + 1) else L
def takeM (L : List MsgL) (i : Int) : MsgL := if inB L.length i = true then L.getD i.toNat noMsg else noMsg
def takeE (L : List MsgL) (i : Int) : Int := if inB L.length i = true then 0 else 4
def dblL (L : List MsgL) (i : Int) : List MsgL := if inB L.length i = true then (if 256 ≤ L.length then L else L ++ [L.getD i.toNat noMsg]) else L
def dblE (L : List MsgL) (i : Int) : Int := if inB L.length i = true then (if 256 ≤ L.length then 3 else 0) else 4
/- how many are for that one; how many have these bytes -/
def toN (L : List MsgL) (to : Int) : Nat := L.countP fun m => decide (m.t = to)
def bytesN (L : List MsgL) (s : ByteArray) : Nat := L.countP fun m => m.b.toList == s.toList

structure ActL where
  kind : Int
  n : Int
  m : MsgL
instance actInh : Inhabited ActL := ⟨⟨0, 0, noMsg⟩⟩
def actL (L : List MsgL) (a : ActL) : List MsgL := if a.kind = 0 then sendL L a.m else if a.kind = 1 ∨ a.kind = 2 then takeL L a.n else dblL L a.n
def playL (A : List ActL) : List MsgL := A.foldl actL []
theorem playL_more (A : List ActL) (a : ActL) : playL (A ++ [a]) = actL (playL A) a := by simp [playL]

/- rows that may be -/
def OkL (L : List MsgL) : Prop := (∀ m ∈ L, rightM m = true) ∧ L.length ≤ 256
theorem ok_none : OkL [] := ⟨fun _ h => absurd h List.not_mem_nil, Nat.zero_le _⟩
theorem ok_more {L : List MsgL} {m : MsgL} (h : OkL L) (hm : rightM m = true) (hl : ¬ 256 ≤ L.length) : OkL (L ++ [m]) := by
  refine ⟨fun x hx => ?_, by rw [List.length_append, List.length_singleton]; omega⟩
  rcases List.mem_append.1 hx with h1 | h1
  · exact h.1 x h1
  · rw [List.mem_singleton.1 h1]; exact hm
theorem ok_cut {L : List MsgL} (h : OkL L) (k : Nat) : OkL (L.take k ++ L.drop (k + 1)) := by
  refine ⟨fun x hx => ?_, ?_⟩
  · rcases List.mem_append.1 hx with h1 | h1
    · exact h.1 x (List.mem_of_mem_take h1)
    · exact h.1 x (List.mem_of_mem_drop h1)
  · rw [List.length_append, List.length_take, List.length_drop]; have := h.2; omega
theorem ok_at {L : List MsgL} (h : OkL L) {k : Nat} (hk : k < L.length) : rightM (L.getD k noMsg) = true := by
  rw [List.getD_eq_getElem?_getD, List.getElem?_eq_getElem hk]; exact h.1 _ (List.getElem_mem hk)
theorem ok_send {L : List MsgL} (h : OkL L) (m : MsgL) : OkL (sendL L m) := by
  unfold sendL
  split
  · split
    · exact h
    · exact ok_more h ‹_› ‹_›
  · exact h
theorem in_lt {n : Nat} {i : Int} (h : inB n i = true) : i.toNat < n ∧ i = (i.toNat : Int) := by
  have := of_decide_eq_true h
  omega
theorem ok_take {L : List MsgL} (h : OkL L) (i : Int) : OkL (takeL L i) := by
  unfold takeL
  split
  · exact ok_cut h _
  · exact h
theorem ok_dbl {L : List MsgL} (h : OkL L) (i : Int) : OkL (dblL L i) := by
  unfold dblL
  split
  · split
    · exact h
    · exact ok_more h (ok_at h (in_lt ‹_›).1) ‹_›
  · exact h
theorem ok_act {L : List MsgL} (h : OkL L) (a : ActL) : OkL (actL L a) := by
  unfold actL
  split
  · exact ok_send h _
  · split
    · exact ok_take h _
    · exact ok_dbl h _
/- the document's Double is its Send of what stands there -/
theorem dbl_send {L : List MsgL} (h : OkL L) {i : Int} (hi : inB L.length i = true) : dblL L i = sendL L (L.getD i.toNat noMsg) ∧ dblE L i = sendE L (L.getD i.toNat noMsg) := by
  have := ok_at h (in_lt hi).1
  unfold dblL dblE sendL sendE
  rw [if_pos hi, if_pos hi, if_pos this, if_pos this]
  exact ⟨rfl, rfl⟩
theorem toN_le (L : List MsgL) (to : Int) : toN L to ≤ L.length := List.countP_le_length
theorem bytesN_le (L : List MsgL) (s : ByteArray) : bytesN L s ≤ L.length := List.countP_le_length
/- one call adds or takes one at the most -/
theorem cut_one (L : List MsgL) {k : Nat} (hk : k < L.length) (s : ByteArray) : bytesN L s = bytesN (L.take k ++ L.drop (k + 1)) s + (if (L[k].b.toList == s.toList) = true then 1 else 0) := by
  conv => lhs; rw [← List.take_append_drop k L, List.drop_eq_getElem_cons hk]
  unfold bytesN
  rw [List.countP_append, List.countP_append, List.countP_cons]
  omega
theorem act_near (L : List MsgL) (a : ActL) (s : ByteArray) : bytesN (actL L a) s ≤ bytesN L s + 1 ∧ bytesN L s ≤ bytesN (actL L a) s + 1 ∧ (a.kind = 0 → bytesN L s ≤ bytesN (actL L a) s) := by
  have more : ∀ m : MsgL, bytesN L s ≤ bytesN (L ++ [m]) s ∧ bytesN (L ++ [m]) s ≤ bytesN L s + 1 := fun m => by
    have h1 : bytesN (L ++ [m]) s = bytesN L s + bytesN [m] s := by unfold bytesN; rw [List.countP_append]
    have h2 := bytesN_le [m] s
    rw [List.length_singleton] at h2
    omega
  by_cases h0 : a.kind = 0
  · have e : actL L a = sendL L a.m := by unfold actL; rw [if_pos h0]
    rw [e]
    unfold sendL
    split
    · split
      · exact ⟨by omega, by omega, fun _ => Nat.le_refl _⟩
      · have := more a.m; exact ⟨by omega, by omega, fun _ => by omega⟩
    · exact ⟨by omega, by omega, fun _ => Nat.le_refl _⟩
  · refine (fun hx => ⟨hx.1, hx.2, fun h => absurd h h0⟩ : _ ∧ _ → _) ?_
    by_cases h1 : a.kind = 1 ∨ a.kind = 2
    · have e : actL L a = takeL L a.n := by unfold actL; rw [if_neg h0, if_pos h1]
      rw [e]
      unfold takeL
      split
      · have := cut_one L (in_lt ‹_›).1 s
        split at this <;> omega
      · omega
    · have e : actL L a = dblL L a.n := by unfold actL; rw [if_neg h0, if_neg h1]
      rw [e]
      unfold dblL
      split
      · split
        · omega
        · have := more (L.getD a.n.toNat noMsg); omega
      · omega
theorem ok_play (A : List ActL) : ∀ k, k ≤ A.length → OkL (playL (A.take k))
  | 0, _ => ok_none
  | k + 1, h => by
    rw [List.take_succ_eq_append_getElem (show k < A.length by omega), playL_more]
    exact ok_act (ok_play A k (by omega)) _

end Go.Proofs.Ytheefhogphlkiaa
