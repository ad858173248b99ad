/- What is known of operations' results, in plain words (no program). Results in memory: what they read as. -/
import Derived.Test.YtiliobfgmelncaaRefLeafNames
import Derived.Test.YtiliobfgmelncaaScopeNamesAll
import Derived.Test.YtiliobfgmelncaaScopePlains
import Derived.Test.YtiliobfgmelncaaScopeLeafs
namespace Go.Proofs.Ytiliobfgmelncaa

structure ResL where
  f : Nat
  v : Bool
  sc : List (List UInt8)
  ct : List (List UInt8)
def noR : ResL := ⟨0, false, [], []⟩
def scB (o : OpL) (cert : Bool) (a b : List (List UInt8)) : List (List UInt8) :=
  if ndO o = 0 then leafO o cert
  else if ndO o = 1 then (if (cert && o.s) = true then [] else if o.k = 8 ∧ cert = false then moreO a o.m else a)
  else if o.k = 6 ∨ (o.k = 5 ∧ cert = true) then a
  else if o.k = 4 ∧ cert = true then meetO a b else unionO a b
def madeR (o : OpL) (i : Nat) (N : List ResL) : ResL :=
  ⟨N.foldl (fun m x => min m x.f) i, N.foldl (fun b x => b || x.v) (o.k == 9), scB o false (N.getD 0 noR).sc (N.getD 1 noR).sc, scB o true (N.getD 0 noR).ct (N.getD 1 noR).ct⟩
theorem nd_of {o : OpL} : (o.k = 1 → ndO o = 0) ∧ (o.k = 2 → ndO o = 0) ∧ (o.k = 7 → ndO o = 1) ∧ (o.k = 8 → ndO o = 1) ∧ (o.k = 9 → ndO o = 1) ∧ (o.k = 3 → ndO o = 2) ∧ (o.k = 4 → ndO o = 2) ∧ (o.k = 5 → ndO o = 2) ∧ (o.k = 6 → ndO o = 2) := by
  unfold ndO
  refine ⟨?_, ?_, ?_, ?_, ?_, ?_, ?_, ?_, ?_⟩ <;> (intro h; rw [h]; rfl)
/- what a right operation has -/
theorem right_1 {o : OpL} (h : rightO o = true) (hk : o.k = 1) : o.T.length ≤ 32 ∧ o.V = [] := by
  unfold rightO at h
  rw [if_pos hk] at h
  simp only [Bool.and_eq_true] at h
  obtain ⟨⟨⟨⟨⟨h1, h2⟩, _⟩, _⟩, _⟩, _⟩ := h
  unfold patsB at h1
  rw [Bool.and_eq_true] at h1
  exact ⟨of_decide_eq_true h1.2, List.isEmpty_iff.1 h2⟩
theorem right_2 {o : OpL} (h : rightO o = true) (hk : o.k = 2) : o.T = [] ∧ o.V.length ≤ 32 ∧ ∀ r ∈ o.R, r.length = o.V.length := by
  unfold rightO at h
  rw [if_neg (by omega), if_pos hk] at h
  simp only [Bool.and_eq_true] at h
  obtain ⟨⟨⟨⟨h1, h2⟩, _⟩, _⟩, _⟩ := h
  unfold tableB rowsB at h2
  simp only [Bool.and_eq_true] at h2
  obtain ⟨⟨⟨h3, _⟩, _⟩, h4⟩ := h2
  refine ⟨List.isEmpty_iff.1 h1, of_decide_eq_true h3, fun r hr => ?_⟩
  have := List.all_eq_true.1 h4 r hr
  rw [Bool.and_eq_true] at this
  exact of_decide_eq_true this.1
theorem right_78 {o : OpL} (h : rightO o = true) (hk : o.k = 7 ∨ o.k = 8) : o.s = false := by
  unfold rightO at h
  rcases hk with hk | hk
  · rw [if_neg (by omega), if_neg (by omega), if_neg (by omega), if_neg (by omega), if_pos hk] at h
    simp only [Bool.and_eq_true] at h
    simpa using h.2
  · rw [if_neg (by omega), if_neg (by omega), if_neg (by omega), if_neg (by omega), if_neg (by omega), if_pos hk] at h
    simp only [Bool.and_eq_true] at h
    simpa using h.2
theorem right_8 {o : OpL} (h : rightO o = true) (hk : o.k = 8) : nameL o.m = true := by
  unfold rightO at h
  rw [if_neg (by omega), if_neg (by omega), if_neg (by omega), if_neg (by omega), if_neg (by omega), if_pos hk] at h
  simp only [Bool.and_eq_true] at h
  exact h.1.2
theorem right_kind {o : OpL} (h : rightO o = true) : o.k = 1 ∨ o.k = 2 ∨ o.k = 3 ∨ o.k = 4 ∨ o.k = 5 ∨ o.k = 6 ∨ o.k = 7 ∨ o.k = 8 ∨ o.k = 9 := by
  by_cases c : o.k < 1 ∨ 9 < o.k
  · exfalso
    unfold rightO at h
    rw [if_neg (by omega), if_neg (by omega), if_neg (by omega), if_neg (by omega), if_neg (by omega), if_neg (by omega), if_neg (by omega)] at h
    cases h
  · omega
theorem leafO_1 {o : OpL} (h : rightO o = true) (hk : o.k = 1) (c : Bool) : leafO o c = tpart o.T := by
  unfold leafO
  rw [(right_1 h hk).2]; rfl
theorem leafO_2 {o : OpL} (h : rightO o = true) (hk : o.k = 2) (c : Bool) : leafO o c = vpart o.R o.V c [] o.V.length := by
  unfold leafO
  rw [(right_2 h hk).1]; rfl
/- what it comes to, kind by kind -/
theorem scB_1 {o : OpL} (h : rightO o = true) (hk : o.k = 1) (c : Bool) (a b : List (List UInt8)) : scB o c a b = tpart o.T := by unfold scB; rw [if_pos (nd_of.1 hk)]; exact leafO_1 h hk c
theorem scB_2 {o : OpL} (h : rightO o = true) (hk : o.k = 2) (c : Bool) (a b : List (List UInt8)) : scB o c a b = vpart o.R o.V c [] o.V.length := by unfold scB; rw [if_pos (nd_of.2.1 hk)]; exact leafO_2 h hk c
theorem scB_3 {o : OpL} (hk : o.k = 3) (c : Bool) (a b : List (List UInt8)) : scB o c a b = unionO a b := by
  unfold scB; rw [if_neg (by rw [nd_of.2.2.2.2.2.1 hk]; decide), if_neg (by rw [nd_of.2.2.2.2.2.1 hk]; decide), if_neg (by omega), if_neg (by omega)]
theorem scB_4f {o : OpL} (hk : o.k = 4) (a b : List (List UInt8)) : scB o false a b = unionO a b := by
  unfold scB; rw [if_neg (by rw [nd_of.2.2.2.2.2.2.1 hk]; decide), if_neg (by rw [nd_of.2.2.2.2.2.2.1 hk]; decide), if_neg (by omega), if_neg (fun c => by cases c.2)]
theorem scB_4t {o : OpL} (hk : o.k = 4) (a b : List (List UInt8)) : scB o true a b = meetO a b := by
  unfold scB; rw [if_neg (by rw [nd_of.2.2.2.2.2.2.1 hk]; decide), if_neg (by rw [nd_of.2.2.2.2.2.2.1 hk]; decide), if_neg (by omega), if_pos ⟨hk, rfl⟩]
theorem scB_5f {o : OpL} (hk : o.k = 5) (a b : List (List UInt8)) : scB o false a b = unionO a b := by
  unfold scB; rw [if_neg (by rw [nd_of.2.2.2.2.2.2.2.1 hk]; decide), if_neg (by rw [nd_of.2.2.2.2.2.2.2.1 hk]; decide), if_neg (fun c => c.elim (fun d => by omega) (fun d => by cases d.2)), if_neg (by omega)]
theorem scB_5t {o : OpL} (hk : o.k = 5) (a b : List (List UInt8)) : scB o true a b = a := by
  unfold scB; rw [if_neg (by rw [nd_of.2.2.2.2.2.2.2.1 hk]; decide), if_neg (by rw [nd_of.2.2.2.2.2.2.2.1 hk]; decide), if_pos (.inr ⟨hk, rfl⟩)]
theorem scB_6 {o : OpL} (hk : o.k = 6) (c : Bool) (a b : List (List UInt8)) : scB o c a b = a := by
  unfold scB; rw [if_neg (by rw [nd_of.2.2.2.2.2.2.2.2 hk]; decide), if_neg (by rw [nd_of.2.2.2.2.2.2.2.2 hk]; decide), if_pos (.inl hk)]
theorem scB_7 {o : OpL} (h : rightO o = true) (hk : o.k = 7) (c : Bool) (a b : List (List UInt8)) : scB o c a b = a := by
  unfold scB; rw [if_neg (by rw [nd_of.2.2.1 hk]; decide), if_pos (nd_of.2.2.1 hk), right_78 h (.inl hk), if_neg (by simp), if_neg (by omega)]
theorem scB_8f {o : OpL} (hk : o.k = 8) (a b : List (List UInt8)) : scB o false a b = moreO a o.m := by
  unfold scB; rw [if_neg (by rw [nd_of.2.2.2.1 hk]; decide), if_pos (nd_of.2.2.2.1 hk), if_neg (by simp), if_pos ⟨hk, rfl⟩]
theorem scB_8t {o : OpL} (h : rightO o = true) (hk : o.k = 8) (a b : List (List UInt8)) : scB o true a b = a := by
  unfold scB; rw [if_neg (by rw [nd_of.2.2.2.1 hk]; decide), if_pos (nd_of.2.2.2.1 hk), right_78 h (.inr hk), if_neg (by simp), if_neg (fun c => by cases c.2)]
theorem scB_9f {o : OpL} (hk : o.k = 9) (a b : List (List UInt8)) : scB o false a b = a := by
  unfold scB; rw [if_neg (by rw [nd_of.2.2.2.2.1 hk]; decide), if_pos (nd_of.2.2.2.2.1 hk), if_neg (by simp), if_neg (by omega)]
theorem scB_9t {o : OpL} (hk : o.k = 9) (a b : List (List UInt8)) : scB o true a b = bif o.s then [] else a := by
  unfold scB; rw [if_neg (by rw [nd_of.2.2.2.2.1 hk]; decide), if_pos (nd_of.2.2.2.2.1 hk)]
  cases o.s with
  | true => rfl
  | false => rw [if_neg (by simp), if_neg (by omega)]; rfl
/- how many -/
theorem scB_length {o : OpL} (h : rightO o = true) (c : Bool) (a b : List (List UInt8)) : (scB o c a b).length ≤ a.length + b.length + 128 := by
  unfold scB
  split
  · have hk := right_kind h
    have h32 : o.T.length ≤ 32 ∧ o.V.length ≤ 32 := by
      rcases hk with hk | hk | hk | hk | hk | hk | hk | hk | hk
      · have := right_1 h hk; rw [this.2]; exact ⟨this.1, Nat.zero_le _⟩
      · have := right_2 h hk; rw [this.1]; exact ⟨Nat.zero_le _, this.2.1⟩
      · rename_i hn; rw [nd_of.2.2.2.2.2.1 hk] at hn; cases hn
      · rename_i hn; rw [nd_of.2.2.2.2.2.2.1 hk] at hn; cases hn
      · rename_i hn; rw [nd_of.2.2.2.2.2.2.2.1 hk] at hn; cases hn
      · rename_i hn; rw [nd_of.2.2.2.2.2.2.2.2 hk] at hn; cases hn
      · rename_i hn; rw [nd_of.2.2.1 hk] at hn; cases hn
      · rename_i hn; rw [nd_of.2.2.2.1 hk] at hn; cases hn
      · rename_i hn; rw [nd_of.2.2.2.2.1 hk] at hn; cases hn
    have := leafO_length o c h32.1 h32.2
    omega
  · split
    · split
      · simp
      · split
        · have := moreO_length a o.m; omega
        · omega
    · split
      · omega
      · split
        · have := meetO_le a b; omega
        · have := unionO_length a b; omega

end Go.Proofs.Ytiliobfgmelncaa

namespace Go.Proofs.Ytiliobfgmelncaa
open Go.RowKit Go.Maps

/- a result's cells, with its two sets -/
def ResAt (w : World) (g o : Nat) (r : ResL) : Prop := ∃ p q, w.cell? ⟨g, o, none⟩ = some (.int .i64 r.f) ∧ w.cell? ⟨g, o + 1, none⟩ = some (.bool r.v) ∧ w.cell? ⟨g, o + 2, none⟩ = some (.map p) ∧ w.cell? ⟨g, o + 3, none⟩ = some (.map q) ∧ SetA w p r.sc ∧ SetA w q r.ct
theorem ResAt.on {w w' : World} {g o : Nat} {r : ResL} (h : ResAt w g o r) (hb : Below w.heap.size w w') (hg : g < w.heap.size) : ResAt w' g o r := by
  obtain ⟨p, q, c0, c1, c2, c3, h1, h2⟩ := h
  exact ⟨p, q, (hb.cell (p := ⟨g, _, none⟩) hg).trans c0, (hb.cell (p := ⟨g, _, none⟩) hg).trans c1, (hb.cell (p := ⟨g, _, none⟩) hg).trans c2, (hb.cell (p := ⟨g, _, none⟩) hg).trans c3, h1.on (mapsOn_below hb), h2.on (mapsOn_below hb)⟩
structure ResA (w : World) (a : Option Addr) (n c : Nat) (N : List ResL) : Prop where
  len : N.length = n
  cap : n ≤ c
  most : c ≤ maxLen
  cells : 0 < n → ∃ g o, a = some ⟨g, o, none⟩ ∧ g < w.heap.size ∧ ∀ j (h : j < N.length), ResAt w g (o + j * 4) N[j]
theorem ResA.on {w w' : World} {a : Option Addr} {n c : Nat} {N : List ResL} (h : ResA w a n c N) (hb : Below w.heap.size w w') : ResA w' a n c N := by
  refine ⟨h.len, h.cap, h.most, fun h0 => ?_⟩
  obtain ⟨g, o, ha, hg, hc⟩ := h.cells h0
  exact ⟨g, o, ha, Nat.lt_of_lt_of_le hg hb.size, fun j hj => (hc j hj).on hb hg⟩
/- one result handed back -/
def ResT (w : World) (r : ResL) (e : Ending) (w' : World) : Prop := ∃ p q, e = .returned (.agg #[.int .i64 r.f, .bool r.v, .map p, .map q]) ∧ SetA w' p r.sc ∧ SetA w' q r.ct ∧ Below w.heap.size w w'

end Go.Proofs.Ytiliobfgmelncaa
