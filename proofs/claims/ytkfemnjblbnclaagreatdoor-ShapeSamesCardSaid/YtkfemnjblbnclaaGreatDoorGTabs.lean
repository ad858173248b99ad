/- ScopePlain, ShpTabPlain, ShpRankPlain, put together. -/
import Derived.Test.YtkfemnjblbnclaaGreatDoorGPlain
import Derived.Test.YtkfemnjblbnclaaGreatDoorTripPlain
import Derived.Test.YtkfemnjblbnclaaGreatDoorShpSlice
import Derived.Test.YtkfemnjblbnclaaGreatDoorGOrder

/- Operations in plain words (no program): which are right by themselves, how many results each needs. -/
namespace Go.Proofs.YtkfemnjblbnclaaGreatDoor

structure OpL where
  k : Int
  T : List TripL
  V : List (List UInt8)
  R : List (List TermL)
  F : List PartL
  m : List UInt8
  s : Bool
def needO (k : Int) : Int := if k = 1 ∨ k = 2 then 0 else if k = 7 ∨ k = 8 ∨ k = 9 then 1 else if k = 3 ∨ k = 4 ∨ k = 5 ∨ k = 6 then 2 else -1
def valueZ (t : TermL) : Bool := rightL t.k t.x t.y t.z && (decide (t.k = 0) || decide (t.k = 1) || decide (t.k = 2))
def patsB (T : List TripL) : Bool := T.all patB && decide (T.length ≤ 32)
def namesB : List (List UInt8) → List (List UInt8) → Bool
  | _, [] => true
  | seen, x :: r => nameL x && !decide (x ∈ seen) && namesB (seen ++ [x]) r
def rowsB (n : Nat) (R : List (List TermL)) : Bool := R.all fun r => decide (r.length = n) && r.all valueZ
def tableB (V : List (List UInt8)) (R : List (List TermL)) : Bool := decide (V.length ≤ 32) && decide (R.length ≤ 64) && namesB [] V && rowsB V.length R
def formB (F : List PartL) : Bool := decide (0 < F.length) && decide (chkE F = 0)
def rightO (o : OpL) : Bool :=
  if o.k = 1 then patsB o.T && o.V.isEmpty && o.R.isEmpty && o.F.isEmpty && o.m.isEmpty && !o.s
  else if o.k = 2 then o.T.isEmpty && tableB o.V o.R && o.F.isEmpty && o.m.isEmpty && !o.s
  else if o.k = 3 ∨ o.k = 4 ∨ o.k = 6 then o.T.isEmpty && o.V.isEmpty && o.R.isEmpty && o.F.isEmpty && o.m.isEmpty && !o.s
  else if o.k = 5 then o.T.isEmpty && o.V.isEmpty && o.R.isEmpty && (o.F.isEmpty || formB o.F) && o.m.isEmpty && !o.s
  else if o.k = 7 then o.T.isEmpty && o.V.isEmpty && o.R.isEmpty && formB o.F && o.m.isEmpty && !o.s
  else if o.k = 8 then o.T.isEmpty && o.V.isEmpty && o.R.isEmpty && formB o.F && nameL o.m && !o.s
  else if o.k = 9 then o.T.isEmpty && o.V.isEmpty && o.R.isEmpty && o.F.isEmpty && iriL o.m
  else false

/- names one by one: those ahead of place k are names, each once -/
def NamesR (V : List (List UInt8)) (k : Nat) : Prop := namesB [] V = namesB (V.take k) (V.drop k)
theorem names_start (V : List (List UInt8)) : NamesR V 0 := by unfold NamesR; simp
theorem names_at {V : List (List UInt8)} {k : Nat} (hk : k < V.length) : namesB (V.take k) (V.drop k) = (nameL V[k] && !decide (V[k] ∈ V.take k) && namesB (V.take (k + 1)) (V.drop (k + 1))) := by
  rw [List.drop_eq_getElem_cons hk, List.take_succ_eq_append_getElem hk]; rfl
theorem names_next {V : List (List UInt8)} {k : Nat} (h : NamesR V k) (hk : k < V.length) (h1 : nameL V[k] = true) (h2 : ¬ V[k] ∈ V.take k) : NamesR V (k + 1) := by
  unfold NamesR at *
  rw [h, names_at hk, h1, decide_eq_false h2]; rfl
theorem names_stop {V : List (List UInt8)} {k : Nat} (h : NamesR V k) (hk : k < V.length) (hb : ¬ (nameL V[k] = true ∧ ¬ V[k] ∈ V.take k)) : namesB [] V = false := by
  rw [show namesB [] V = _ from h, names_at hk]
  by_cases h1 : nameL V[k] = true
  · have h2 : V[k] ∈ V.take k := by
      by_cases hc : V[k] ∈ V.take k
      · exact hc
      · exact absurd ⟨h1, hc⟩ hb
    rw [decide_eq_true h2]; simp
  · rw [Bool.eq_false_iff.2 h1]; simp
theorem names_end {V : List (List UInt8)} {k : Nat} (h : NamesR V k) (hk : V.length ≤ k) : namesB [] V = true := by
  rw [show namesB [] V = _ from h, List.drop_eq_nil_of_le hk]; cases V.take k <;> rfl
/- a test of all, one by one -/
theorem all_drop {α : Type} {p : α → Bool} {l : List α} {k : Nat} (hk : k < l.length) : (l.drop k).all p = (p l[k] && (l.drop (k + 1)).all p) := by rw [List.drop_eq_getElem_cons hk]; rfl
def AllR {α : Type} (p : α → Bool) (l : List α) (k : Nat) : Prop := l.all p = (l.drop k).all p
theorem all_start {α : Type} (p : α → Bool) (l : List α) : AllR p l 0 := rfl
theorem all_next {α : Type} {p : α → Bool} {l : List α} {k : Nat} (h : AllR p l k) (hk : k < l.length) (h1 : p l[k] = true) : AllR p l (k + 1) := by
  unfold AllR at *; rw [h, all_drop hk, h1]; rfl
theorem all_stop {α : Type} {p : α → Bool} {l : List α} {k : Nat} (h : AllR p l k) (hk : k < l.length) (h1 : p l[k] = false) : l.all p = false := by
  unfold AllR at h; rw [h, all_drop hk, h1]; rfl
theorem all_end {α : Type} {p : α → Bool} {l : List α} {k : Nat} (h : AllR p l k) (hk : l.length ≤ k) : l.all p = true := by
  unfold AllR at h; rw [h, List.drop_eq_nil_of_le hk]; rfl

end Go.Proofs.YtkfemnjblbnclaaGreatDoor

/- Which tables are right, in plain words (no program); the place of each variable, told by a map; how many there are. -/
namespace Go.Proofs.YtkfemnjblbnclaaGreatDoor

def cellT (t : TermL) : Bool := rightL t.k t.x t.y t.z && !decide (t.k = 4)
def rowT (n : Nat) (r : List TermL) : Bool := decide (r.length = n) && r.all cellT
def rightT (V : List (List UInt8)) (R : List (List TermL)) : Bool := decide (V.length ≤ 32) && decide (R.length ≤ 4096) && namesB [] V && R.all (rowT V.length)
theorem cellT_ok {t : TermL} (h : cellT t = true) : rightL t.k t.x t.y t.z = true ∧ t.k ≠ 4 := by
  unfold cellT at h
  simpa using h
theorem rightL_kind {k : Int} {x y z : List UInt8} (h : rightL k x y z = true) : 0 ≤ k ∧ k ≤ 4 := by
  unfold rightL at h
  split at h
  · omega
  · split at h
    · omega
    · split at h
      · omega
      · simp at h; omega

/- texts, each once -/
def onceL (L : List (List UInt8)) : List (List UInt8) := L.foldl (fun m x => if x ∈ m then m else m ++ [x]) []
def cntL (L : List (List UInt8)) : Nat := (onceL L).length
theorem onceL_snoc (L : List (List UInt8)) (x : List UInt8) : onceL (L ++ [x]) = if x ∈ onceL L then onceL L else onceL L ++ [x] := by unfold onceL; rw [List.foldl_append]; rfl
theorem onceL_mem (L : List (List UInt8)) (x : List UInt8) : x ∈ onceL L ↔ x ∈ L := by
  refine snoc_ind (P := fun L => x ∈ onceL L ↔ x ∈ L) Iff.rfl (fun r y ih => ?_) L
  rw [onceL_snoc, List.mem_append, ← ih]
  split
  · rename_i h
    exact ⟨fun k => .inl k, fun k => k.elim id (fun k => by rw [List.mem_singleton] at k; rw [k]; exact h)⟩
  · rw [List.mem_append]
theorem cnt_snoc (L : List (List UInt8)) (x : List UInt8) : cntL (L ++ [x]) = if x ∈ L then cntL L else cntL L + 1 := by
  unfold cntL
  rw [onceL_snoc]
  by_cases h : x ∈ L
  · rw [if_pos ((onceL_mem L x).2 h), if_pos h]
  · rw [if_neg (fun c => h ((onceL_mem L x).1 c)), if_neg h, List.length_append]; rfl
theorem cnt_le (L : List (List UInt8)) : cntL L ≤ L.length := by
  refine snoc_ind (P := fun L => cntL L ≤ L.length) (Nat.le_refl _) (fun r y ih => ?_) L
  rw [cnt_snoc, List.length_append, List.length_singleton]
  split <;> omega
theorem nodup_snoc {α : Type} {L : List α} {x : α} : (L ++ [x]).Nodup ↔ L.Nodup ∧ x ∉ L := by
  rw [List.nodup_append]
  constructor
  · rintro ⟨h1, _, h3⟩
    exact ⟨h1, fun c => h3 x c x (List.mem_singleton.2 rfl) rfl⟩
  · rintro ⟨h1, h2⟩
    refine ⟨h1, List.nodup_cons.2 ⟨List.not_mem_nil, List.nodup_nil⟩, fun a ha b hb e => ?_⟩
    rw [List.mem_singleton] at hb
    rw [e, hb] at ha
    exact h2 ha
theorem cnt_nodup (L : List (List UInt8)) : cntL L = L.length ↔ L.Nodup := by
  refine snoc_ind (P := fun L => cntL L = L.length ↔ L.Nodup) ⟨fun _ => List.nodup_nil, fun _ => rfl⟩ (fun r y ih => ?_) L
  have hle := cnt_le r
  rw [cnt_snoc, List.length_append, List.length_singleton, nodup_snoc, ← ih]
  by_cases h : y ∈ r
  · rw [if_pos h]
    exact ⟨fun k => absurd k (by omega), fun k => absurd h k.2⟩
  · rw [if_neg h]
    exact ⟨fun k => ⟨by omega, h⟩, fun k => by omega⟩
theorem namesB_from : ∀ (V S : List (List UInt8)), namesB S V = (V.all nameL && decide (V.Nodup ∧ ∀ x ∈ V, x ∉ S))
  | [], S => by simp [namesB]
  | x :: r, S => by
    unfold namesB
    rw [namesB_from r, List.all_cons]
    by_cases h1 : nameL x = true
    · rw [h1]
      by_cases h2 : x ∈ S
      · rw [decide_eq_true h2, decide_eq_false (show ¬ ((x :: r).Nodup ∧ ∀ y ∈ x :: r, y ∉ S) from fun c => c.2 x List.mem_cons_self h2)]; simp
      · rw [decide_eq_false h2]
        have e : decide (r.Nodup ∧ ∀ y ∈ r, y ∉ S ++ [x]) = decide ((x :: r).Nodup ∧ ∀ y ∈ x :: r, y ∉ S) := by
          rw [decide_eq_decide, List.nodup_cons]
          constructor
          · rintro ⟨k1, k2⟩
            refine ⟨⟨fun c => k2 x c (List.mem_append.2 (.inr (List.mem_singleton.2 rfl))), k1⟩, fun y hy => ?_⟩
            rcases List.mem_cons.1 hy with rfl | hy
            · exact h2
            · exact fun c => k2 y hy (List.mem_append.2 (.inl c))
          · rintro ⟨⟨k1, k2⟩, k3⟩
            refine ⟨k2, fun y hy c => ?_⟩
            rcases List.mem_append.1 c with c | c
            · exact k3 y (List.mem_cons_of_mem _ hy) c
            · rw [List.mem_singleton] at c; rw [c] at hy; exact k1 hy
        rw [e]; simp
    · rw [Bool.eq_false_iff.2 h1]; simp
theorem names_is (V : List (List UInt8)) : namesB [] V = (V.all nameL && decide V.Nodup) := by
  rw [namesB_from]
  congr 1
  rw [decide_eq_decide]
  exact ⟨fun h => h.1, fun h => ⟨h, fun x _ => List.not_mem_nil⟩⟩
theorem right_nodup {V : List (List UInt8)} {R : List (List TermL)} (h : rightT V R = true) : V.Nodup ∧ V.length ≤ 32 ∧ R.length ≤ 4096 ∧ (∀ x ∈ V, nameL x = true) ∧ ∀ r ∈ R, r.length = V.length ∧ ∀ t ∈ r, cellT t = true := by
  unfold rightT at h
  rw [names_is] at h
  simp only [Bool.and_eq_true, decide_eq_true_eq, List.all_eq_true] at h
  obtain ⟨⟨⟨h1, h2⟩, h3, h4⟩, h5⟩ := h
  refine ⟨h4, h1, h2, h3, fun r hr => ?_⟩
  have := h5 r hr
  unfold rowT at this
  simpa using this

/- the place of each text: the last one -/
def putC (f : List UInt8 → Option Int) (x : List UInt8) (v : Option Int) : List UInt8 → Option Int := fun y => if y = x then v else f y
def colF (L : List (List UInt8)) : List UInt8 → Option Int := (L.foldl (fun (p : (List UInt8 → Option Int) × Int) x => (putC p.1 x (some p.2), p.2 + 1)) (fun _ => none, 0)).1
theorem colF_len (L : List (List UInt8)) : (L.foldl (fun (p : (List UInt8 → Option Int) × Int) x => (putC p.1 x (some p.2), p.2 + 1)) (fun _ => none, 0)).2 = L.length := by
  refine snoc_ind (P := fun L => (L.foldl (fun (p : (List UInt8 → Option Int) × Int) x => (putC p.1 x (some p.2), p.2 + 1)) (fun _ => none, 0)).2 = L.length) rfl (fun r y ih => ?_) L
  rw [List.foldl_append, List.length_append]
  simp only [List.foldl_cons, List.foldl_nil, ih, List.length_singleton]
  omega
theorem colF_nil : colF [] = fun _ => none := rfl
theorem colF_snoc (L : List (List UInt8)) (x : List UInt8) : colF (L ++ [x]) = putC (colF L) x (some L.length) := by
  have := colF_len L
  unfold colF
  rw [List.foldl_append]
  simp only [List.foldl_cons, List.foldl_nil, this]
theorem colF_some (L : List (List UInt8)) (x : List UInt8) : (colF L x).isSome = decide (x ∈ L) := by
  refine snoc_ind (P := fun L => (colF L x).isSome = decide (x ∈ L)) rfl (fun r y ih => ?_) L
  rw [colF_snoc]
  unfold putC
  by_cases h : x = y
  · rw [if_pos h, decide_eq_true (by rw [h]; simp)]; rfl
  · rw [if_neg h, ih, decide_eq_decide]; simp [h]
theorem place_snoc (x y : List UInt8) : ∀ r : List (List UInt8), placeP (r ++ [y]) x = if x ∈ r then placeP r x else if y = x then some r.length else none
  | [] => by simp [placeP]
  | v :: r => by
    by_cases hv : v = x
    · simp [placeP, hv]
    · have hv' : ¬ x = v := fun c => hv c.symm
      simp only [List.cons_append, placeP, if_neg hv, place_snoc x y r, List.mem_cons, hv', false_or]
      by_cases hx : x ∈ r <;> by_cases hy : y = x <;> simp [hx, hy]
theorem colF_place {L : List (List UInt8)} (hn : L.Nodup) (x : List UInt8) : colF L x = Option.map (fun i : Nat => (i : Int)) (placeP L x) := by
  revert hn
  refine snoc_ind (P := fun L => L.Nodup → colF L x = Option.map (fun i : Nat => (i : Int)) (placeP L x)) (fun _ => rfl) (fun r y ih hn => ?_) L
  obtain ⟨h1, h2⟩ := nodup_snoc.1 hn
  rw [colF_snoc, place_snoc]
  unfold putC
  by_cases h : x = y
  · subst h
    rw [if_pos rfl, if_neg h2, if_pos rfl]; rfl
  · have h' : ¬ y = x := fun c => h c.symm
    rw [if_neg h, ih h1]
    by_cases hx : x ∈ r
    · rw [if_pos hx]
    · rw [if_neg hx, if_neg h', place_none.2 hx]

end Go.Proofs.YtkfemnjblbnclaaGreatDoor

/- The ranks, one by one, in plain words (no program): what is left of the columns. -/
namespace Go.Proofs.YtkfemnjblbnclaaGreatDoor

/- which variables' columns came not yet -/
def leftF (V : List (List UInt8)) (l : List (Nat × Bool)) : List UInt8 → Option Int := fun x => match placeP V x with
  | none => none
  | some i => if i ∈ l.map (·.1) then none else some (i : Int)
theorem left_nil {V : List (List UInt8)} (hn : V.Nodup) (x : List UInt8) : colF V x = leftF V [] x := by
  rw [colF_place hn]
  unfold leftF
  cases placeP V x with
  | none => rfl
  | some i => simp
theorem left_some {V : List (List UInt8)} {l : List (Nat × Bool)} {x : List UInt8} {v : Int} (h : leftF V l x = some v) : ∃ i : Nat, v = i ∧ placeP V x = some i ∧ i ∉ l.map (·.1) ∧ i < V.length := by
  unfold leftF at h
  split at h
  · cases h
  · rename_i i hp
    split at h
    · cases h
    · rename_i hi
      exact ⟨i, by simpa using h.symm, hp, hi, (place_lt hp).1⟩
theorem left_none {V : List (List UInt8)} {l : List (Nat × Bool)} {x : List UInt8} (h : leftF V l x = none) : ∀ i, placeP V x = some i → i ∈ l.map (·.1) := by
  intro i hp
  unfold leftF at h
  rw [hp] at h
  dsimp only at h
  split at h
  · assumption
  · cases h
theorem left_next {V : List (List UInt8)} {l : List (Nat × Bool)} {x : List UInt8} {i : Nat} {d : Bool} (hp : placeP V x = some i) (y : List UInt8) : (if y = x then none else leftF V l y) = leftF V (l ++ [(i, d)]) y := by
  by_cases e : y = x
  · subst e
    rw [if_pos rfl]
    unfold leftF
    rw [hp]
    dsimp only
    rw [if_pos (by simp)]
  · rw [if_neg e]
    unfold leftF
    cases hq : placeP V y with
    | none => rfl
    | some j =>
      dsimp only
      have hne : j ≠ i := fun c => by
        subst c
        obtain ⟨h1, h2⟩ := place_lt hp
        obtain ⟨h3, h4⟩ := place_lt hq
        exact e (h4.symm.trans h2)
      by_cases hm : j ∈ l.map (·.1)
      · rw [if_pos hm, if_pos (by rw [List.map_append]; exact List.mem_append_left _ hm)]
      · rw [if_neg hm, if_neg (by
          rw [List.map_append, List.mem_append]
          rintro (c | c)
          · exact hm c
          · exact hne (by simpa using c))]
/- the keys' part -/
def keyC (V : List (List UInt8)) (K : List KeyL) (k : Nat) : List (Nat × Bool) := onceC (colsP V (K.take k))
theorem colsP_snoc (V : List (List UInt8)) (K : List KeyL) (x : KeyL) : colsP V (K ++ [x]) = colsP V K ++ ((placeP V x.n).map fun i => (i, x.d)).toList := by
  unfold colsP
  rw [List.filterMap_append]
  congr 1
theorem key_none {V : List (List UInt8)} {K : List KeyL} {k : Nat} (hk : k < K.length) (h : leftF V (keyC V K k) K[k].n = none) : keyC V K (k + 1) = keyC V K k := by
  unfold keyC at *
  rw [List.take_succ_eq_append_getElem hk, colsP_snoc]
  cases hp : placeP V K[k].n with
  | none => simp
  | some i =>
    have := left_none h i hp
    simp only [Option.map_some, Option.toList_some]
    rw [once_snoc, if_pos this]
theorem key_some {V : List (List UInt8)} {K : List KeyL} {k i : Nat} (hk : k < K.length) (hp : placeP V K[k].n = some i) (hi : i ∉ (keyC V K k).map (·.1)) : keyC V K (k + 1) = keyC V K k ++ [(i, K[k].d)] := by
  unfold keyC at *
  rw [List.take_succ_eq_append_getElem hk, colsP_snoc, hp]
  simp only [Option.map_some, Option.toList_some]
  rw [once_snoc, if_neg hi]
/- the others -/
def restC (V : List (List UInt8)) (K : List KeyL) (i : Nat) : List (Nat × Bool) := onceC (colsP V K ++ (allC V.length).take i)
theorem rest_zero (V : List (List UInt8)) (K : List KeyL) : restC V K 0 = keyC V K K.length := by unfold restC keyC; rw [List.take_zero, List.append_nil, List.take_length]
theorem rest_all (V : List (List UInt8)) (K : List KeyL) : restC V K V.length = onceC (rankP V K) := by
  unfold restC rankP
  rw [List.take_of_length_le (by simp [allC])]
theorem allC_at {n i : Nat} (h : i < n) : (allC n).take (i + 1) = (allC n).take i ++ [(i, false)] := by
  have hl : i < (allC n).length := by simp [allC]; exact h
  rw [List.take_succ_eq_append_getElem hl]
  simp [allC]
theorem rest_cols (V : List (List UInt8)) (K : List KeyL) (i : Nat) : i ∈ (restC V K i).map (·.1) ↔ i ∈ (keyC V K K.length).map (·.1) := by
  unfold restC keyC
  rw [once_cols, once_cols, List.take_length, List.map_append, List.mem_append]
  constructor
  · rintro (c | c)
    · exact c
    · obtain ⟨p, hp, e⟩ := List.mem_map.1 c
      obtain ⟨j, hj, e2⟩ := List.mem_iff_getElem.1 hp
      have e3 : p.1 = j := by rw [← e2]; simp [allC]
      rw [List.length_take] at hj
      omega
  · exact .inl
theorem rest_next {V : List (List UInt8)} (hn : V.Nodup) {K : List KeyL} {i : Nat} (h : i < V.length) : restC V K (i + 1) = if (leftF V (keyC V K K.length) V[i]).isSome then restC V K i ++ [(i, false)] else restC V K i := by
  have e : restC V K (i + 1) = if i ∈ (restC V K i).map (·.1) then restC V K i else restC V K i ++ [(i, false)] := by
    unfold restC
    rw [allC_at h, ← List.append_assoc, once_snoc]
  have e2 : (leftF V (keyC V K K.length) V[i]).isSome = true ↔ i ∉ (keyC V K K.length).map (·.1) := by
    unfold leftF
    rw [place_nodup hn h]
    dsimp only
    by_cases c : i ∈ (keyC V K K.length).map (·.1)
    · rw [if_pos c]; exact ⟨fun k => absurd k (by simp), fun k => absurd c k⟩
    · rw [if_neg c]; exact ⟨fun _ => c, fun _ => rfl⟩
  rw [e]
  by_cases hm : i ∈ (keyC V K K.length).map (·.1)
  · rw [if_pos ((rest_cols V K i).2 hm), if_neg (fun c => e2.1 c hm)]
  · rw [if_neg (fun c => hm ((rest_cols V K i).1 c)), if_pos (e2.2 hm)]
/- each column once: few -/
theorem once_lt {V : List (List UInt8)} {K : List KeyL} {x : Nat × Bool} (h : x ∈ onceC (rankP V K)) : x.1 < V.length := by
  have h1 := (once_cols (rankP V K) x.1).1 (List.mem_map.2 ⟨x, h, rfl⟩)
  obtain ⟨p, hp, e⟩ := List.mem_map.1 h1
  rw [← e]
  unfold rankP at hp
  rcases List.mem_append.1 hp with hp | hp
  · unfold colsP at hp
    obtain ⟨k, _, hk⟩ := List.mem_filterMap.1 hp
    cases hq : placeP V k.n with
    | none => rw [hq] at hk; cases hk
    | some i =>
      rw [hq] at hk
      have : (i, k.d) = p := by simpa using hk
      rw [← this]
      exact (place_lt hq).1
  · unfold allC at hp
    obtain ⟨i, hi, e2⟩ := List.mem_map.1 hp
    rw [← e2]
    exact List.mem_range.1 hi
theorem once_nodup (l : List (Nat × Bool)) : ((onceC l).map (·.1)).Nodup := by
  refine snoc_ind (P := fun l => ((onceC l).map (·.1)).Nodup) List.nodup_nil (fun r x ih => ?_) l
  rw [once_snoc]
  split
  · exact ih
  · rename_i h
    rw [List.map_append]
    refine List.nodup_append.2 ⟨ih, List.nodup_cons.2 ⟨List.not_mem_nil, List.nodup_nil⟩, fun a ha b hb e => ?_⟩
    have : b = x.1 := by simpa using hb
    rw [e, this] at ha
    exact h ha
theorem nodup_below (n : Nat) (l : List Nat) (hn : l.Nodup) (hl : ∀ x ∈ l, x < n) : l.length ≤ n := by
  induction n generalizing l with
  | zero =>
    cases l with
    | nil => exact Nat.le_refl _
    | cons x r => exact absurd (hl x List.mem_cons_self) (Nat.not_lt_zero _)
  | succ n ih =>
    by_cases hm : n ∈ l
    · have h1 := ih (l.erase n) (hn.erase n) (fun x hx => by
        have h2 := hl x (List.mem_of_mem_erase hx)
        have h3 : x ≠ n := fun e => by
          subst e
          exact (List.Nodup.not_mem_erase hn) hx
        omega)
      rw [List.length_erase_of_mem hm] at h1
      omega
    · have := ih l hn (fun x hx => by
        have h2 := hl x hx
        have h3 : x ≠ n := fun e => by subst e; exact hm hx
        omega)
      omega
theorem key_len (V : List (List UInt8)) (K : List KeyL) (k : Nat) : (keyC V K k).length ≤ V.length := by
  have h1 := once_nodup (colsP V (K.take k))
  have := nodup_below V.length _ h1 (fun x hx => by
    have h2 := (once_cols _ x).1 hx
    obtain ⟨p, hp, e⟩ := List.mem_map.1 h2
    unfold colsP at hp
    obtain ⟨q, _, hq⟩ := List.mem_filterMap.1 hp
    cases hr : placeP V q.n with
    | none => rw [hr] at hq; cases hq
    | some i =>
      rw [hr] at hq
      have e3 : (i, q.d) = p := by simpa using hq
      rw [← e, ← e3]
      exact (place_lt hr).1)
  rw [List.length_map] at this
  exact this
theorem rest_len (V : List (List UInt8)) (K : List KeyL) (i : Nat) : (restC V K i).length ≤ V.length + i := by
  unfold restC
  have : ∀ l m : List (Nat × Bool), (onceC (l ++ m)).length ≤ (onceC l).length + m.length := fun l m => by
    refine snoc_ind (P := fun m => (onceC (l ++ m)).length ≤ (onceC l).length + m.length) (by rw [List.append_nil]; exact Nat.le_refl _) (fun r x ih => ?_) m
    rw [← List.append_assoc, once_snoc, List.length_append, List.length_singleton]
    split
    · omega
    · rw [List.length_append, List.length_singleton]; omega
  have h1 := this (colsP V K) ((allC V.length).take i)
  have h2 := key_len V K K.length
  unfold keyC at h2
  rw [List.take_length] at h2
  rw [List.length_take] at h1
  omega

end Go.Proofs.YtkfemnjblbnclaaGreatDoor
