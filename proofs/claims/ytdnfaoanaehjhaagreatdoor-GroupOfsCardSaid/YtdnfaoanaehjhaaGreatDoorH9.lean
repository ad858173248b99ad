/- GrpPlain, GrpSlice, ShpAppend, ShpEmpty, ShpRowCK, put together. -/
import Derived.Test.YtdnfaoanaehjhaaGreatDoorH5
import Derived.Test.YtdnfaoanaehjhaaGreatDoorH6
import Derived.Test.YtdnfaoanaehjhaaGreatDoorH8
import Derived.Test.YtdnfaoanaehjhaaGreatDoorH7
import Derived.Maps.AppendAt

/- Groups of rows, and what aggregates come to in them, in plain words. -/
namespace Go.Proofs.YtdnfaoanaehjhaaGreatDoor

/- an aggregate: its kind, what it is over, its name -/
structure AggL where
  k : Int
  o : List UInt8
  m : List UInt8
def aggB (a : AggL) : Bool := decide (1 ≤ a.k ∧ a.k ≤ 4) && (if a.o = [] then decide (a.k = 1) else nameL a.o)
def aggNames (L : List AggL) : List (List UInt8) := L.map AggL.m
def oversL (L : List AggL) : List (List UInt8) := (L.filter fun a => decide (a.o ≠ [])).map AggL.o
/- may they be grouped? 0, 2 (form), 3 (long), 6 (scope) -/
def formG (V B : List (List UInt8)) (R : List RowL) (L : List AggL) : Bool := rightT V R && (namesB [] B && (namesB [] (aggNames L) && L.all aggB))
def strayB (V : List (List UInt8)) (x : List UInt8) : Bool := decide (x ∉ V)
def scopeG (V B : List (List UInt8)) (L : List AggL) : Bool := !(B.any (strayB V)) && (!((oversL L).any (strayB V)) && !((aggNames L).any fun x => !strayB V x))
def checkG (V : List (List UInt8)) (R : List RowL) (B : List (List UInt8)) (L : List AggL) : Int :=
  if formG V B R L = false then 2 else if scopeG V B L = false then 6 else if 32 < B.length + L.length then 3 else 0

/- what a variable is bound to in a row; what is bound of a column -/
def boundC (V : List (List UInt8)) (R : List RowL) (x : List UInt8) : List TermL := (R.map fun r => boundP V r x).filter fun t => decide (t.k ≠ 0)
theorem boundC_snoc (V : List (List UInt8)) (R : List RowL) (r : RowL) (x : List UInt8) : boundC V (R ++ [r]) x = if (boundP V r x).k = 0 then boundC V R x else boundC V R x ++ [boundP V r x] := by
  unfold boundC
  rw [List.map_append, List.filter_append]
  by_cases h : (boundP V r x).k = 0
  · rw [if_pos h]; simp [h]
  · rw [if_neg h]; simp [h]
theorem boundC_len (V : List (List UInt8)) (R : List RowL) (x : List UInt8) : (boundC V R x).length ≤ R.length := by
  unfold boundC
  exact Nat.le_trans (List.length_filter_le _ _) (by rw [List.length_map]; exact Nat.le_refl _)

/- a count as a term; a sum; an end -/
def countT (n : Nat) : TermL := ⟨2, Lib.decDigits n, tyIL, []⟩
def addP (s : Option Nm.NumL) (t : TermL) : Option Nm.NumL := match s with
  | none => none
  | some m => if (ofP t).2 = true then (if (reckP 1 m (ofP t).1).2 = true then some (reckP 1 m (ofP t).1).1 else none) else none
def sumP (l : List TermL) : Option Nm.NumL := l.foldl addP (some Nm.noNum)
theorem sum_snoc (l : List TermL) (t : TermL) : sumP (l ++ [t]) = addP (sumP l) t := by unfold sumP; rw [List.foldl_append]; rfl
theorem add_none (l : List TermL) : l.foldl addP none = none := by
  induction l with
  | nil => rfl
  | cons t r ih => exact ih
theorem sum_none {l : List TermL} {k : Nat} (h : sumP (l.take k) = none) : sumP l = none := by
  have : sumP (l.take k ++ l.drop k) = none := by
    unfold sumP at *
    rw [List.foldl_append, h, add_none]
  rwa [List.take_append_drop] at this
def sumT (l : List TermL) : TermL := match sumP l with
  | some n => termN n
  | none => nilT
def endP (last : Bool) (m t : TermL) : TermL := if (if last = true then 0 < valP t m else valP t m < 0) then t else m
def endT (last : Bool) : List TermL → TermL
  | [] => nilT
  | t :: r => r.foldl (endP last) t
theorem end_snoc (last : Bool) (l : List TermL) (t : TermL) (h : l ≠ []) : endT last (l ++ [t]) = endP last (endT last l) t := by
  cases l with
  | nil => exact absurd rfl h
  | cons x r =>
    show (r ++ [t]).foldl (endP last) x = _
    rw [List.foldl_append]; rfl
theorem end_one (last : Bool) (t : TermL) : endT last [t] = t := rfl
/- what an aggregate comes to in rows -/
def comesP (V : List (List UInt8)) (R : List RowL) (a : AggL) : TermL :=
  if a.k = 1 then (if a.o = [] then countT R.length else countT (boundC V R a.o).length)
  else if a.k = 2 then sumT (boundC V R a.o) else endT (decide (a.k = 4)) (boundC V R a.o)

/- rows with the same key, in the order of their first ones -/
def keyP (V B : List (List UInt8)) (r : RowL) : RowL := B.map (boundP V r)
def gatherP (f : RowL → RowL) (R : List RowL) : List (List RowL) := (distP (R.map f)).map fun d => R.filter fun r => decide (f r = d)
def groupsP (V B : List (List UInt8)) (R : List RowL) : List (List RowL) := if B = [] then [R] else gatherP (keyP V B) R
def lineP (V B : List (List UInt8)) (L : List AggL) (G : List RowL) : RowL := keyP V B (G.headD []) ++ L.map (comesP V G)
def groupP (V B : List (List UInt8)) (L : List AggL) (R : List RowL) : List RowL := (groupsP V B R).map (lineP V B L)

theorem gather_len (f : RowL → RowL) (R : List RowL) : (gatherP f R).length = (distP (R.map f)).length := by unfold gatherP; rw [List.length_map]
theorem gather_le (f : RowL → RowL) (R : List RowL) : (gatherP f R).length ≤ R.length := by
  rw [gather_len]
  have := dist_le (R.map f)
  rwa [List.length_map] at this
theorem gather_at (f : RowL → RowL) (R : List RowL) (j : Nat) (h : j < (gatherP f R).length) : (gatherP f R)[j] = R.filter fun r => decide (f r = (distP (R.map f))[j]'(by rw [gather_len] at h; exact h)) := List.getElem_map _
theorem gather_nil (f : RowL → RowL) : gatherP f [] = [] := rfl
/- one row more: of an old group -/
theorem gather_old {f : RowL → RowL} {R : List RowL} {x : RowL} {j : Nat} (hj : j < (distP (R.map f)).length) (h : (distP (R.map f))[j] = f x) :
    distP ((R ++ [x]).map f) = distP (R.map f) ∧ gatherP f (R ++ [x]) = (gatherP f R).set j ((gatherP f R)[j]'(by rw [gather_len]; exact hj) ++ [x]) := by
  have hd : distP ((R ++ [x]).map f) = distP (R.map f) := by
    rw [List.map_append, List.map_singleton, dist_snoc, if_pos (by rw [← h]; exact List.getElem_mem hj)]
  refine ⟨hd, ?_⟩
  apply List.ext_getElem
  · rw [gather_len, hd, List.length_set, gather_len]
  · intro i h1 h2
    rw [gather_at, List.getElem_set]
    have e : (distP ((R ++ [x]).map f))[i]'(by rw [gather_len] at h1; exact h1) = (distP (R.map f))[i]'(by rw [gather_len, hd] at h1; exact h1) := by
      simp only [hd]
    rw [e, List.filter_append]
    by_cases c : j = i
    · subst c
      rw [if_pos rfl, gather_at]
      congr 1
      simp [h]
    · rw [if_neg c, gather_at]
      have hne : ¬ f x = (distP (R.map f))[i]'(by rw [gather_len, hd] at h1; exact h1) := fun q => c (by
        rw [← h] at q
        exact (List.getElem_inj (dist_nodup (R.map f))).1 q)
      simp [hne]
/- one row more: a group of its own -/
theorem gather_new {f : RowL → RowL} {R : List RowL} {x : RowL} (h : f x ∉ R.map f) :
    distP ((R ++ [x]).map f) = distP (R.map f) ++ [f x] ∧ gatherP f (R ++ [x]) = gatherP f R ++ [[x]] := by
  have hd : distP ((R ++ [x]).map f) = distP (R.map f) ++ [f x] := by
    rw [List.map_append, List.map_singleton, dist_snoc, if_neg (fun c => h ((dist_mem _ _).1 c))]
  refine ⟨hd, ?_⟩
  unfold gatherP
  rw [hd, List.map_append]
  congr 1
  · apply List.map_congr_left
    intro d hm
    rw [List.filter_append]
    have hne : ¬ f x = d := fun c => h ((dist_mem _ _).1 (by rw [c]; exact hm))
    simp [hne]
  · rw [List.map_singleton, List.filter_append]
    have : R.filter (fun r => decide (f r = f x)) = [] := List.filter_eq_nil_iff.2 fun r hr => by
      simp only [decide_eq_true_eq]
      exact fun c => h (List.mem_map.2 ⟨r, hr, c⟩)
    rw [this]
    simp

/- which group each text is of -/
def Spot (K : List RowL) (k : Nat) (f : List UInt8 → Option Int) : Prop :=
  (∀ x v, f x = some v → ∃ j : Nat, v = j ∧ ∃ h : j < (distP (K.take k)).length, txtN (idsP K k).1 (distP (K.take k))[j] = x) ∧
  ∀ j (h : j < (distP (K.take k)).length), f (txtN (idsP K k).1 (distP (K.take k))[j]) = some (j : Int)
theorem spot_zero (K : List RowL) : Spot K 0 (fun _ => none) := ⟨(fun _ _ h => nomatch h), fun j h => by rw [List.take_zero] at h; exact absurd h (Nat.not_lt_zero _)⟩
theorem spot_txt {K : List RowL} {k : Nat} (hk : k < K.length) {r : RowL} (hr : r ∈ distP (K.take k)) : txtN (idsP K (k + 1)).1 r = txtN (idsP K k).1 r := came_old hk ((dist_mem _ _).1 hr)
theorem spot_old {K : List RowL} {k : Nat} (hk : k < K.length) {f : List UInt8 → Option Int} (h : Spot K k f) {v : Int} (hv : f (txtN (idsP K (k + 1)).1 K[k]) = some v) : ∃ j : Nat, v = j ∧ ∃ hj : j < (distP (K.take k)).length, (distP (K.take k))[j] = K[k] := by
  obtain ⟨j, e, hj, hx⟩ := h.1 _ v hv
  refine ⟨j, e, hj, ?_⟩
  obtain ⟨h1, h2⟩ := num_at K (k + 1)
  rw [List.take_succ_eq_append_getElem hk] at h2
  have hm : (distP (K.take k))[j] ∈ K.take k := (dist_mem _ _).1 (List.getElem_mem hj)
  rw [← came_old hk hm] at hx
  exact txt_one h1 (h2 _ (List.mem_append_left _ hm)) (h2 _ (List.mem_append_right _ (List.mem_singleton.2 rfl))) hx
theorem spot_new {K : List RowL} {k : Nat} (hk : k < K.length) {f : List UInt8 → Option Int} (h : Spot K k f) (hv : f (txtN (idsP K (k + 1)).1 K[k]) = none) : K[k] ∉ K.take k := by
  intro hm
  obtain ⟨j, hj, e⟩ := List.mem_iff_getElem.1 ((dist_mem _ _).2 hm)
  have := h.2 j hj
  rw [← spot_txt hk (List.getElem_mem hj), e] at this
  rw [this] at hv
  cases hv
theorem spot_keep {K : List RowL} {k : Nat} (hk : k < K.length) {f : List UInt8 → Option Int} (h : Spot K k f) (hm : K[k] ∈ K.take k) : Spot K (k + 1) f := by
  have hd : distP (K.take (k + 1)) = distP (K.take k) := by rw [List.take_succ_eq_append_getElem hk, dist_snoc, if_pos ((dist_mem _ _).2 hm)]
  unfold Spot
  rw [hd]
  refine ⟨fun x v hx => ?_, fun j hj => ?_⟩
  · obtain ⟨j, e, hj, e2⟩ := h.1 x v hx
    exact ⟨j, e, hj, by rw [spot_txt hk (List.getElem_mem hj)]; exact e2⟩
  · rw [spot_txt hk (List.getElem_mem hj)]; exact h.2 j hj
theorem spot_put {K : List RowL} {k : Nat} (hk : k < K.length) {f g : List UInt8 → Option Int} (h : Spot K k f) (hm : K[k] ∉ K.take k)
    (hg : ∀ x, g x = if x = txtN (idsP K (k + 1)).1 K[k] then some ((distP (K.take k)).length : Int) else f x) : Spot K (k + 1) g := by
  have hd : distP (K.take (k + 1)) = distP (K.take k) ++ [K[k]] := by rw [List.take_succ_eq_append_getElem hk, dist_snoc, if_neg (fun c => hm ((dist_mem _ _).1 c))]
  obtain ⟨h1, h2⟩ := num_at K (k + 1)
  rw [List.take_succ_eq_append_getElem hk] at h2
  unfold Spot
  rw [hd]
  refine ⟨fun x v hx => ?_, fun j hj => ?_⟩
  · rw [hg] at hx
    split at hx
    · rename_i e
      have e2 : ((distP (K.take k)).length : Int) = v := by simpa using hx
      refine ⟨(distP (K.take k)).length, e2.symm, by simp, ?_⟩
      rw [List.getElem_append_right (Nat.le_refl _)]
      simp only [Nat.sub_self, List.getElem_cons_zero]
      exact e.symm
    · obtain ⟨j, e, hj, e2⟩ := h.1 x v hx
      refine ⟨j, e, by rw [List.length_append]; omega, ?_⟩
      rw [List.getElem_append_left hj, spot_txt hk (List.getElem_mem hj)]
      exact e2
  · rw [hg]
    by_cases c : j < (distP (K.take k)).length
    · rw [List.getElem_append_left c]
      have hmj : (distP (K.take k))[j] ∈ K.take k := (dist_mem _ _).1 (List.getElem_mem c)
      rw [if_neg (fun q => hm (by
        have := txt_one h1 (h2 _ (List.mem_append_left _ hmj)) (h2 _ (List.mem_append_right _ (List.mem_singleton.2 rfl))) q
        rw [← this]; exact hmj)), spot_txt hk (List.getElem_mem c)]
      exact h.2 j c
    · have e : j = (distP (K.take k)).length := by rw [List.length_append, List.length_singleton] at hj; omega
      subst e
      rw [List.getElem_append_right (Nat.le_refl _)]
      simp only [Nat.sub_self, List.getElem_cons_zero]
      first | rw [if_pos rfl] | simp
theorem key_len (V B : List (List UInt8)) (r : RowL) : (keyP V B r).length = B.length := by unfold keyP; rw [List.length_map]
theorem spot_len {K : List RowL} {n k : Nat} (h : ∀ r ∈ K, r.length = n) (hn : n ≤ 32) (hl : K.length ≤ 4096) (hk : k < K.length) : (txtN (idsP K (k + 1)).1 K[k]).length ≤ 704 := came_txt h hn hl hk

end Go.Proofs.YtdnfaoanaehjhaaGreatDoor

/- Aggregates: slices of them as arguments; is there one of which a function says yes? -/
namespace Go.Proofs.YtdnfaoanaehjhaaGreatDoor
open Go.RowKit Go.Shelf

def AggL.v (a : AggL) : Value := .agg #[.int .i64 a.k, .string (bs a.o), .string (bs a.m)]
def AggL.ok (a : AggL) : Prop := (bs a.o).size ≤ maxLen ∧ (bs a.m).size ≤ maxLen
def Agg3 (w : World) (g j : Nat) (x : AggL) : Prop := w.cell? ⟨g, j, none⟩ = some (.int .i64 x.k) ∧ w.cell? ⟨g, j + 1, none⟩ = some (.string (bs x.o)) ∧ w.cell? ⟨g, j + 2, none⟩ = some (.string (bs x.m))
theorem Agg3.on {w w' : World} {g o B : Nat} {x : AggL} (h : Agg3 w g o x) (hb : Below B w w') (hg : g < B) : Agg3 w' g o x := by
  obtain ⟨h1, h2, h3⟩ := h
  exact ⟨(hb.cell (p := ⟨g, _, none⟩) hg).trans h1, (hb.cell (p := ⟨g, _, none⟩) hg).trans h2, (hb.cell (p := ⟨g, _, none⟩) hg).trans h3⟩
structure AgA (w : World) (a : Option Addr) (n c : Nat) (G : List AggL) : Prop where
  len : G.length = n
  cap : n ≤ c
  most : c ≤ maxLen
  cells : 0 < n → ∃ g o, a = some ⟨g, o, none⟩ ∧ g < w.heap.size ∧ ∀ j (h : j < G.length), Agg3 w g (o + j * 3) G[j]
theorem AgA.on {w w' : World} {a : Option Addr} {n c : Nat} {G : List AggL} (h : AgA w a n c G) (hb : Below w.heap.size w w') : AgA w' a n c G := by
  refine ⟨h.len, h.cap, h.most, fun h0 => ?_⟩
  obtain ⟨g, o, ha, hg, hc⟩ := h.cells h0
  exact ⟨g, o, ha, Nat.lt_of_lt_of_le hg hb.size, fun j hj => (hc j hj).on hb hg⟩
theorem agA_nil (w : World) : AgA w none 0 0 [] := ⟨rfl, Nat.le_refl _, Nat.zero_le _, fun h => absurd h (Nat.lt_irrefl _)⟩
theorem agA_blk {w : World} {g n : Nat} {G : List AggL} {T : TypeId} (h : Blk w g T (G.flatMap fun a => [.int .i64 a.k, .string (bs a.o), .string (bs a.m)]).toArray) (hn : G.length = n) (hm : n ≤ maxLen) : AgA w (some ⟨g, 0, none⟩) n n G := by
  refine ⟨hn, Nat.le_refl _, hm, fun _ => ⟨g, 0, rfl, blk_lt h, fun j hj => ?_⟩⟩
  have hc : ∀ (L : List AggL) (k : Nat) (hk : k < L.length) (i : Nat), i < 3 → (L.flatMap fun a => [Value.int .i64 a.k, .string (bs a.o), .string (bs a.m)])[k * 3 + i]? = [Value.int .i64 L[k].k, .string (bs L[k].o), .string (bs L[k].m)][i]? := by
    intro L
    induction L with
    | nil => intro k hk; simp at hk
    | cons t r ih =>
      intro k hk i hi
      rw [List.flatMap_cons]
      cases k with
      | zero => rw [List.getElem?_append_left (by show _ < 3; omega)]; simp
      | succ k =>
        rw [List.getElem?_append_right (by show 3 ≤ _; omega)]
        rw [show (k + 1) * 3 + i - [Value.int .i64 t.k, .string (bs t.o), .string (bs t.m)].length = k * 3 + i by show (k + 1) * 3 + i - 3 = _; omega]
        exact ih k (by simpa using hk) i hi
  have F : ∀ i, i < 3 → w.cell? ⟨g, 0 + j * 3 + i, none⟩ = [Value.int .i64 G[j].k, .string (bs G[j].o), .string (bs G[j].m)][i]? := fun i hi => by
    rw [blk_cell h, Nat.zero_add, List.getElem?_toArray]
    exact hc G j hj i hi
  exact ⟨(F 0 (by decide)).trans rfl, (F 1 (by decide)).trans rfl, (F 2 (by decide)).trans rfl⟩
theorem AggL.inj {a b : AggL} (h1 : a.k = b.k) (h2 : a.o = b.o) (h3 : a.m = b.m) : a = b := by
  cases a; cases b; simp only at h1 h2 h3; subst h1 h2 h3; rfl

set_option maxRecDepth 100000 in
set_option maxHeartbeats 4000000 in
theorem idxG_calls (L : List AggL) (p : AggL → Bool) (gf : Nat) (lb : Array Value) (eg : ∀ args w, (callFunc gf args).run Tryz.prog w = .ok (.enter gf args) w) (a : Option Addr) (n c : Nat) (w : World) (hv : AgA w a n c L)
    (hp : ∀ W (j : Nat) (h : j < L.length), Below w.heap.size w W → Calls Tryz.prog gf (#[L[j].v] ++ lb) W fun e w' => e = .returned (.bool (p L[j])) ∧ Below W.heap.size W w') :
    Calls Tryz.prog 64 #[.slice a n c, .func (.func gf) #[] lb] w fun e w' => ∃ r : Int, e = .returned (.int .i64 r) ∧ decide (0 ≤ r) = L.any p ∧ Below w.heap.size w w' := by
  have HV := Lib.hid hv
  have HP := Lib.hid hp
  have HL := Lib.hid hv.len
  have hcp := hv.cap
  have hms := hv.most
  unfold maxLen at hms
  clear hv hp
  go_enter Tryz.func64, Tryz.ntmps64
  go_wp2
  go_loopg [5, 8] n (fun g _ i wr => ∃ k : Nat, i = .int .i64 k ∧ k + g = n ∧ Hid ((L.take k).any p = false) ∧ Hid (Below w.heap.size w wr))
  case atStart => exact ⟨0, rfl, by omega, Lib.hid rfl, Lib.hid (Below.refl _ _)⟩
  case round =>
    obtain ⟨W1, rfl⟩ : ∃ W1, W1 = wr := ⟨_, rfl⟩
    obtain ⟨k, rfl, hkg, HR, HB⟩ := hrel
    by_cases hk : k < n
    · have hkL : k < L.length := by rw [HL.out]; exact hk
      obtain ⟨gg, rfl⟩ : ∃ gg, gk = gg + 1 := ⟨gk - 1, by omega⟩
      obtain ⟨g, o, ha, hgw, hcells⟩ := HV.out.cells (by omega)
      subst ha
      have hgW : g < W1.heap.size := Nat.lt_of_lt_of_le hgw HB.out.size
      obtain ⟨c0, c1, c2⟩ := (hcells k hkL).on HB.out hgw
      have HC := Lib.hid (HP.out W1 k hkL HB.out)
      have HHIT := Lib.hid (fun h1 => anyN_hit (p := p) hkL h1)
      have HNX := Lib.hid (fun h1 => anyN_next (p := p) HR.out hkL h1)
      clear hcells
      generalize L[k] = y at c0 c1 c2 HC HHIT HNX
      simp only [AggL.v] at HC
      have k0 : (0 : Int) ≤ (k : Int) := by omega
      have k1 : (k : Int) < (n : Int) := by omega
      cases hq : p y with
      | true =>
        rw [hq] at HC HNX HHIT
        have HE := Lib.hid (HHIT.out rfl)
        clear HNX HHIT hq
        go_wp2_with (go_at_fn gf; refine HC.out.mono ?_; rintro e w2 ⟨rfl, hb2⟩; have HB2 := Lib.hid (HB.out.trans (hb2.mono HB.out.size)); clear hb2)
        go_ret
        exact ⟨k, rfl, by rw [HE.out]; exact decide_eq_true k0, HB2.out⟩
      | false =>
        rw [hq] at HC HNX HHIT
        have HN2 := Lib.hid (HNX.out rfl)
        clear HNX HHIT hq
        go_wp2_with (go_at_fn gf; refine HC.out.mono ?_; rintro e w2 ⟨rfl, hb2⟩; have HB2 := Lib.hid (HB.out.trans (hb2.mono HB.out.size)); clear hb2)
        go_roundg gg
        case measure => omega
        case rel => exact ⟨k + 1, by go_num, by omega, HN2, HB2⟩
    · have HE := Lib.hid (anyN_end HR.out (by rw [HL.out]; omega))
      have k1 : ¬ (k : Int) < (n : Int) := by omega
      go_wp2
      go_ret
      exact ⟨-1, rfl, by rw [HE.out]; rfl, HB.out⟩
theorem hasG_calls (L : List AggL) (p : AggL → Bool) (gf : Nat) (lb : Array Value) (eg : ∀ args w, (callFunc gf args).run Tryz.prog w = .ok (.enter gf args) w) (a : Option Addr) (n c : Nat) (w : World) (hv : AgA w a n c L)
    (hp : ∀ W (j : Nat) (h : j < L.length), Below w.heap.size w W → Calls Tryz.prog gf (#[L[j].v] ++ lb) W fun e w' => e = .returned (.bool (p L[j])) ∧ Below W.heap.size W w') :
    Calls Tryz.prog 32 #[.slice a n c, .func (.func gf) #[] lb] w fun e w' => e = .returned (.bool (L.any p)) ∧ Below w.heap.size w w' := by
  have HC := Lib.hid (idxG_calls L p gf lb eg a n c w hv hp)
  clear hv hp
  go_enter Tryz.func32, Tryz.ntmps32
  go_wp2_with (go_at_call 64; refine HC.out.mono ?_; rintro e w2 ⟨r, rfl, hr, hb2⟩; have HR := Lib.hid hr; clear hr)
  go_ret
  exact ⟨by rw [← HR.out]; rfl, hb2⟩

end Go.Proofs.YtdnfaoanaehjhaaGreatDoor

/- An append to a row of one's own, within a region that draws its order. -/
namespace Go.Proofs.YtdnfaoanaehjhaaGreatDoor
open Go.RowKit Go.Maps

theorem wp_append_own {o : Oper} {a : Act} {w : World} {K : Act → World → Prop} {Q : Exit → Act → World → Prop} (s x : Operand) (t : TypeId)
    (ho : o.op = .call { callee := .builtin .append, args := #[s, x], argTypes := #[t, t] })
    (base : Nat) (e : TypeId) (i : TypeInfo) (z : Value) (size bytes : Nat) (ht : Tryz.prog.underlying t = some (.slice e)) (hi : Tryz.prog.info? e = some i) (hz : i.zero = some z)
    (hsize : i.size = size) (hby : i.bytes = bytes) (hzs : z.cells.size = size) (hsz : 0 < size)
    (v : Value) (n : Nat) (xs : List Value) (hs : a.eval s = v) (hown : w.ownsRow base e size v n xs)
    (ad : Addr) (m c : Nat) (news : List Value) (hx : a.eval x = .slice (some ad) m c) (hl : news.length = m * size) (hnews : ∀ j u, news[j]? = some u → w.cell? (ad.add j) = some u) (h1 : ∀ u ∈ news, u.oneCell' = true)
    (h63 : n + m ≤ maxLen) (hbytes : (n + m) * bytes ≤ 140737488355328) (hbase : base ≤ w.heap.size)
    (h : ∀ v' w', w'.ownsRow base e size v' (n + m) (xs ++ news) → w.grownBy w' v.ownBlock → (v'.ownBlock = v.ownBlock ∨ v'.ownBlock = some w.heap.size) → K (a.put o.dst v') w') : Oper.wp Tryz.prog o a w K Q := by
  obtain ⟨v', w', hr, h2, h3, _, h5⟩ := run_append_own_at (P := Tryz.prog) w base t o.type e i z size bytes ht hi hz hsize hby hzs hsz v n xs hown ad m c news hl hnews h1 h63 hbytes hbase
  unfold Oper.wp execOp
  simp only [ho, resolve, invoke, builtin, Sem.run_bind, Sem.run_pure, Result.andThen_ok, List.map_toArray, List.map_cons, List.map_nil, hs, hx, hr]
  exact h v' w' h2 h3 h5

end Go.Proofs.YtdnfaoanaehjhaaGreatDoor

/- A table of n rows of nothing, in new memory: package shape's empty (written by gen/mkempty12.py). -/
namespace Go.Proofs.YtdnfaoanaehjhaaGreatDoor
open Go.RowKit

theorem add_at (g o j : Nat) : (⟨g, o, none⟩ : Addr).add j = ⟨g, o + j, none⟩ := by unfold Addr.add; split <;> simp_all
theorem TrmA.flat {w : World} {a : Option Addr} {n c : Nat} {L : List TermL} (h : TrmA w a n c L) (h0 : 0 < n) : ∃ g o, a = some ⟨g, o, none⟩ ∧ g < w.heap.size ∧ ∀ j v, (cellsT L)[j]? = some v → w.cell? ⟨g, o + j, none⟩ = some v := by
  obtain ⟨g, o, e, hg, hc⟩ := h.cells h0
  refine ⟨g, o, e, hg, fun j v hv => ?_⟩
  have hl : j < L.length * 4 := by rw [← cellsT_length]; exact (List.getElem?_eq_some_iff.1 hv).1
  have hq : j / 4 < L.length := by omega
  have ej : j = j / 4 * 4 + j % 4 := by omega
  rw [ej, cellsT_at L _ hq _ (Nat.mod_lt _ (by omega))] at hv
  obtain ⟨c0, c1, c2, c3⟩ := hc (j / 4) hq
  have hr : j % 4 < 4 := Nat.mod_lt _ (by omega)
  have e2 : o + j = o + j / 4 * 4 + j % 4 := by omega
  rw [e2]
  generalize j % 4 = r at hv hr
  rcases (by omega : r = 0 ∨ r = 1 ∨ r = 2 ∨ r = 3) with rfl | rfl | rfl | rfl
  · rw [← hv]; exact c0
  · rw [← hv]; exact c1
  · rw [← hv]; exact c2
  · rw [← hv]; exact c3
/- a copy into a row that is known whole -/
theorem copy_abs {ops : Array Oper} {rest : List Oper} {o : Oper} {a : Act} {w : World} {Q : Exit → Act → World → Prop} (d s : Operand) (dT sT : TypeId)
    (ho : o.op = .call { callee := .builtin .copy, args := #[d, s], argTypes := #[dT, sT] } ∧ o.guard = none) (elem : TypeId) (i : TypeInfo) (hu : Tryz.prog.underlying dT = some (.slice elem)) (hi : Tryz.prog.info? elem = some i)
    (g off dLen dCap : Nat) (sa : Option Addr) (sLen sCap m : Nat) (hd : a.eval d = .slice (some ⟨g, off, none⟩) dLen dCap) (hs : a.eval s = .slice sa sLen sCap) (hm : Nat.min sLen dLen = m)
    (T : TypeId) (xs ys cs : List Value) (hg : Blk w g T xs.toArray) (hn : cs.length = m * i.size) (hsrc : 0 < m → ∃ ad, sa = some ad ∧ ∀ j v, cs[j]? = some v → w.cell? (ad.add j) = some v)
    (e : xs.take off ++ cs ++ xs.drop (off + cs.length) = ys) (hfit : off + cs.length ≤ xs.length) (h1 : ∀ v ∈ cs, v.oneCell' = true)
    (h : ∀ w', Hid (Blk w' g T ys.toArray) → Hid (w.grownBy w' (some g)) → wpList Tryz.prog ops Q rest (a.put o.dst (goInt m)) w') : wpList Tryz.prog ops Q (o :: rest) a w := by
  refine wpList_plain ho.2 fun K hK => ?_
  by_cases h0 : 0 < m
  · obtain ⟨ad, rfl, hc⟩ := hsrc h0
    refine wp_copy_sized d s dT sT ho.1 elem i hu hi g off dLen dCap ad sLen sCap m hd hs hm xs.toArray T hg cs hn hc (by simpa using hfit) h1 (hK _ _ (h _ ?_ (grown_set _ _ _)))
    show Blk _ _ _ _
    rw [List.toList_toArray, e]
    exact blk_row hg _
  · have hm0 : m = 0 := by omega
    subst hm0
    have hc0 : cs = [] := List.eq_nil_of_length_eq_zero (by rw [hn]; omega)
    subst hc0
    have e2 : ys = xs := by rw [← e]; simp
    subst e2
    exact wp_copy_zero d s dT sT ho.1 elem i hu hi _ _ dLen dCap sLen sCap hd hs hm (hK _ _ (h w hg (grown_refl _ _)))

theorem tab_row : 25 ≠ 35 := by decide
theorem tab_str : 25 ≠ 9 := by decide
theorem tab_trm : 25 ≠ 37 := by decide
theorem row_str : 35 ≠ 9 := by decide
theorem row_trm : 35 ≠ 37 := by decide
theorem str_trm : 9 ≠ 37 := by decide
def nilV : Value := .slice none 0 0
def cutV (G m o : Nat) : Value := .slice (some ⟨G, o, none⟩) m m
/- the rows that are cut out so far -/
def cutRows (G m n k : Nat) : List Value := (List.range k).map (fun i => cutV G m (i * m * 4)) ++ List.replicate (n - k) nilV
theorem cutRows_length {G m n k : Nat} (h : k ≤ n) : (cutRows G m n k).length = n := by unfold cutRows; rw [List.length_append, List.length_map, List.length_range, List.length_replicate]; omega
theorem cutRows_zero (G m n : Nat) : cutRows G m n 0 = List.replicate n nilV := rfl
theorem cutRows_next {G m n k : Nat} (h : k < n) : (cutRows G m n k).set k (cutV G m (k * m * 4)) = cutRows G m n (k + 1) := by
  unfold cutRows
  have e : ((List.range k).map (fun i => cutV G m (i * m * 4))).length = k := by simp
  obtain ⟨j, hj⟩ : ∃ j, n - k = j + 1 := ⟨n - k - 1, by omega⟩
  rw [hj, show n - (k + 1) = j by omega, List.replicate_succ, List.set_append_right _ _ (by omega), e, Nat.sub_self, List.set_cons_zero, List.range_succ, List.map_append, List.append_assoc]
  rfl
theorem cutRows_at {G m n k i : Nat} (hi : i < k) : (cutRows G m n k)[i]? = some (cutV G m (i * m * 4)) := by
  unfold cutRows
  rw [List.getElem?_append_left (by simpa using hi)]
  simp [hi]
theorem made_rows (N : Nat) : madeCells (Value.slice none 0 0).cells (N * 1) = (List.replicate N nilV).toArray := by
  have := made_list (.slice none 0 0) N [nilV] rfl (by decide)
  rw [show [nilV].length = 1 from rfl] at this
  rw [this]
  congr 1
  induction N with
  | zero => rfl
  | succ n ih => rw [List.replicate_succ, List.flatten_cons, ih (made_list _ n _ rfl (by decide)), List.replicate_succ]; rfl
theorem made_texts (N : Nat) : madeCells (Value.string ⟨#[]⟩).cells (N * 1) = (textCells (List.replicate N [])).toArray := by
  have := made_list (.string ⟨#[]⟩) N [.string ⟨#[]⟩] rfl (by decide)
  rw [show [Value.string ⟨#[]⟩].length = 1 from rfl] at this
  rw [this]
  congr 1
  unfold textCells
  rw [List.map_replicate]
  clear this
  induction N with
  | zero => rfl
  | succ n ih => rw [List.replicate_succ, List.flatten_cons, ih, List.replicate_succ]; rfl
theorem made_terms (N : Nat) : madeCells nilT.v.cells (N * 4) = (cellsT (List.replicate N nilT)).toArray := by
  have := made_list nilT.v N nilT.cs rfl (by decide)
  rw [show nilT.cs.length = 4 from rfl] at this
  rw [this]
  congr 1
  clear this
  induction N with
  | zero => rfl
  | succ n ih => rw [List.replicate_succ, List.flatten_cons, ih, List.replicate_succ, cellsT_cons]

/- a table in new memory: its rows are pieces of one list of terms -/
def Grid (w : World) (B : Nat) (tv : Value) (V : List (List UInt8)) (n : Nat) (L : List TermL) : Prop :=
  ∃ G1 G2 G3, tv = .agg #[.slice (some ⟨G1, 0, none⟩) V.length V.length, .slice (some ⟨G2, 0, none⟩) n n] ∧ B ≤ G1 ∧ B ≤ G2 ∧ B ≤ G3 ∧ Blk w G1 9 (textCells V).toArray ∧
    Blk w G2 35 (cutRows G3 V.length n n).toArray ∧ Blk w G3 37 (cellsT L).toArray ∧ L.length = n * V.length
/- on the way -/
def GridR (A B0 : Nat) (W0 : World) (V : List (List UInt8)) (n X G1 G2 G3 k : Nat) (c : Value) (wr : World) : Prop :=
  Blk wr A 25 #[.slice none 0 0, .slice none 0 0] ∧ Blk wr X 25 #[.slice (some ⟨G1, 0, none⟩) V.length V.length, .slice (some ⟨G2, 0, none⟩) n n] ∧ Blk wr G1 9 (textCells V).toArray ∧ Blk wr G2 35 (cutRows G3 V.length n k).toArray ∧
    Blk wr G3 37 (cellsT (List.replicate (n * V.length) nilT)).toArray ∧ (∃ o, c = .slice (some ⟨G3, o, none⟩) ((n - k) * V.length) ((n - k) * V.length) ∧ (k < n → o = k * V.length * 4)) ∧ Below B0 W0 wr
theorem fork3 {Hyp G : World → Nat → Nat → Nat → Prop} {C : Prop} (main : (∀ W X Y Z, Hyp W X Y Z → G W X Y Z) → C) (key : ∀ W X Y Z, Hyp W X Y Z → G W X Y Z) : C := main key

end Go.Proofs.YtdnfaoanaehjhaaGreatDoor

/- Rows of rows in a row of one's own: slices' values in its cells. -/
namespace Go.Proofs.YtdnfaoanaehjhaaGreatDoor
open Go.RowKit

/- slices' values in the cells of a row of rows, in blocks that K tells of -/
def RowCK (K : Nat → Prop) (w : World) (cs : List Value) (F : List RowL) : Prop := cs.length = F.length ∧ ∀ j (h : j < F.length), ∃ a' c', cs[j]? = some (.slice a' F[j].length c') ∧ TrmK K w a' F[j].length c' F[j]
theorem rowCK_nil (K : Nat → Prop) (w : World) : RowCK K w [] [] := ⟨rfl, fun _ h => absurd h (Nat.not_lt_zero _)⟩
theorem RowCK.on {K : Nat → Prop} {w w' : World} {cs : List Value} {F : List RowL} (h : RowCK K w cs F) (hs : Stay K w w') : RowCK K w' cs F := ⟨h.1, fun j hj => by
  obtain ⟨a', c', e, ht⟩ := h.2 j hj
  exact ⟨a', c', e, ht.on hs⟩⟩
theorem RowCK.mono {K K' : Nat → Prop} {w : World} {cs : List Value} {F : List RowL} (h : RowCK K w cs F) (hk : ∀ i, i < w.heap.size → K i → K' i) : RowCK K' w cs F := ⟨h.1, fun j hj => by
  obtain ⟨a', c', e, ht⟩ := h.2 j hj
  exact ⟨a', c', e, ht.mono hk⟩⟩
theorem RowCK.app {K : Nat → Prop} {w : World} {cs ds : List Value} {F G : List RowL} (h : RowCK K w cs F) (k : RowCK K w ds G) : RowCK K w (cs ++ ds) (F ++ G) := by
  obtain ⟨h0, h⟩ := h
  obtain ⟨k0, k⟩ := k
  refine ⟨by rw [List.length_append, List.length_append, h0, k0], fun j hj => ?_⟩
  by_cases e : j < F.length
  · obtain ⟨a', c', e1, e2⟩ := h j e
    rw [List.getElem_append_left e]
    exact ⟨a', c', by rw [List.getElem?_append_left (by omega)]; exact e1, e2⟩
  · rw [List.length_append] at hj
    obtain ⟨a', c', e1, e2⟩ := k (j - F.length) (by omega)
    rw [List.getElem_append_right (by omega)]
    exact ⟨a', c', by rw [List.getElem?_append_right (by omega), h0]; exact e1, e2⟩
theorem own_rows {K : Nat → Prop} {W : World} {B n : Nat} {v : Value} {cs : List Value} {F : List RowL} (h : W.ownsRow B 35 1 v n cs) (hc : RowCK K W cs F) (hn : F.length = n) : ∃ a c, v = .slice a n c ∧ RowA W a n c F := by
  rcases h.2 with ⟨rfl, h0⟩ | ⟨g, cap, cur, rfl, hg, hblk, h1, h2, h3, h4⟩
  · subst h0
    have : F = [] := List.eq_nil_of_length_eq_zero hn
    subst this
    exact ⟨_, _, rfl, (row_nil (fun _ => True) W none 0 (Nat.zero_le _)).a⟩
  · refine ⟨_, _, rfl, hn, h1, h2, fun h0 => ⟨g, 0, rfl, (Array.getElem?_eq_some_iff.1 hblk).1, fun j hj => ?_⟩⟩
    obtain ⟨a', c', e1, e2⟩ := hc.2 j hj
    refine ⟨a', c', ?_, e2.a⟩
    rw [Nat.zero_add, h.cellAt j (by omega)]
    exact e1
/- the cells of a slice of rows -/
theorem rows_cells {K : Nat → Prop} {w : World} {g o n c : Nat} {F : List RowL} (h : RowK K w (some ⟨g, o, none⟩) n c F) (h0 : 0 < n) : ∃ cs, RowCK K w cs F ∧ (∀ j u, cs[j]? = some u → w.cell? ((⟨g, o, none⟩ : Addr).add j) = some u) ∧ ∀ u ∈ cs, u.oneCell' = true := by
  obtain ⟨g', o', e, hg, hk, hc⟩ := h.cells h0
  cases e
  have H : ∀ k, k ≤ F.length → ∃ cs : List Value, cs.length = k ∧ (∀ j (hj : j < F.length), j < k → ∃ a' c', cs[j]? = some (.slice a' F[j].length c') ∧ TrmK K w a' F[j].length c' F[j]) ∧ (∀ j u, cs[j]? = some u → w.cell? ((⟨g, o, none⟩ : Addr).add j) = some u) ∧ ∀ u ∈ cs, u.oneCell' = true := by
    intro k
    induction k with
    | zero => intro _; exact ⟨[], rfl, fun _ _ h => absurd h (Nat.not_lt_zero _), fun j u h => by simp at h, fun u h => absurd h List.not_mem_nil⟩
    | succ k ih =>
      intro hk
      obtain ⟨cs, e1, e2, e3, e4⟩ := ih (by omega)
      obtain ⟨a', c', d1, d2⟩ := hc k (by omega)
      refine ⟨cs ++ [.slice a' (F[k]'(by omega)).length c'], by rw [List.length_append, e1]; rfl, fun j hj hjk => ?_, fun j u hu => ?_, fun u hu => ?_⟩
      · by_cases e : j < k
        · obtain ⟨x, y, f1, f2⟩ := e2 j hj e
          exact ⟨x, y, by rw [List.getElem?_append_left (by omega)]; exact f1, f2⟩
        · have ej : j = k := by omega
          subst ej
          exact ⟨a', c', by rw [List.getElem?_append_right (by omega), e1, Nat.sub_self]; rfl, d2⟩
      · by_cases e : j < k
        · exact e3 j u (by rw [List.getElem?_append_left (by omega)] at hu; exact hu)
        · rw [List.getElem?_append_right (by omega)] at hu
          have ej : j = k := by
            have := (List.getElem?_eq_some_iff.1 hu).1
            simp at this
            omega
          subst ej
          rw [e1, Nat.sub_self] at hu
          have eu : Value.slice a' (F[j]'(by omega)).length c' = u := by simpa using hu
          rw [add_at, ← eu]
          exact d1
      · rcases List.mem_append.1 hu with hu | hu
        · exact e4 u hu
        · rw [List.mem_singleton] at hu
          rw [hu]; rfl
  obtain ⟨cs, e1, e2, e3, e4⟩ := H F.length (Nat.le_refl _)
  exact ⟨cs, ⟨e1, fun j hj => e2 j hj hj⟩, e3, e4⟩

theorem own_cells {w : World} {B size n : Nat} {e : TypeId} {v : Value} {xs : List Value} (h : w.ownsRow B e size v n xs) : v.cells = #[v] ∧ v.oneCell' = true := by
  rcases h.2 with ⟨rfl, _⟩ | ⟨g, cap, cur, rfl, _⟩
  · exact ⟨rfl, rfl⟩
  · exact ⟨rfl, rfl⟩

end Go.Proofs.YtdnfaoanaehjhaaGreatDoor
