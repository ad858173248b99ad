/- ShpSamePlain, ShpTurn, NumRight, NumCut, NumMade, put together. -/
import Derived.Test.YtdnfaoanaehjhaaGreatDoorH14
import Derived.Test.YtdnfaoanaehjhaaGreatDoorH6
import Derived.Test.YtdnfaoanaehjhaaGreatDoorH12
import Derived.Test.YtdnfaoanaehjhaaGreatDoorH10
import Derived.Deep.RegionWith

/- Have two right tables the same rows, in plain words (no program): by how often each row stands there. -/
namespace Go.Proofs.YtdnfaoanaehjhaaGreatDoor
open Go.RowKit

/- the rows of a table, by other columns -/
def projR (V U : List (List UInt8)) (s : RowL) : RowL := V.map (boundP U s)
def projP (V U : List (List UInt8)) (S : List RowL) : List RowL := S.map (projR V U)
theorem hits_is {U : List (List UInt8)} {s : RowL} : ∀ {V : List (List UInt8)} {r : RowL}, r.length = V.length → hitsB U s V r = decide (projR V U s = r)
  | [], [], _ => by simp [hitsB, projR]
  | v :: V, [], h => by simp at h
  | [], t :: r, h => by simp at h
  | v :: V, t :: r, h => by
    have ih := hits_is (U := U) (s := s) (V := V) (r := r) (by simpa using h)
    unfold hitsB projR at *
    rw [List.zip_cons_cons, List.all_cons, ih, List.map_cons]
    by_cases h1 : boundP U s v = t <;> simp [hitP, h1]
theorem times_is {U : List (List UInt8)} {S : List RowL} {V : List (List UInt8)} {r : RowL} (h : r.length = V.length) : timesP U S V r = (projP V U S).count r := by
  unfold timesP projP
  rw [List.count, List.countP_map]
  refine List.countP_congr (fun s _ => ?_)
  rw [hits_is h]
  simp
theorem proj_self {V : List (List UInt8)} (hn : V.Nodup) {s : RowL} (h : s.length = V.length) : projR V V s = s := by
  unfold projR
  refine List.ext_getElem (by rw [List.length_map, h]) (fun i h1 h2 => ?_)
  rw [List.getElem_map]
  have hi : i < V.length := by rw [List.length_map] at h1; exact h1
  unfold boundP
  rw [place_nodup hn hi]
  dsimp only
  rw [List.getD_eq_getElem?_getD, List.getElem?_eq_getElem h2]
  rfl
theorem proj_all {V : List (List UInt8)} (hn : V.Nodup) {R : List RowL} (h : ∀ r ∈ R, r.length = V.length) : projP V V R = R := by
  unfold projP
  exact (List.map_congr_left (g := id) (fun r hr => proj_self hn (h r hr))).trans (List.map_id _)
theorem proj_len (V U : List (List UInt8)) (S : List RowL) : (projP V U S).length = S.length ∧ ∀ r ∈ projP V U S, r.length = V.length := by
  unfold projP
  refine ⟨List.length_map _, fun r hr => ?_⟩
  obtain ⟨s, _, rfl⟩ := List.mem_map.1 hr
  exact List.length_map _

/- as often, or not more often, and as many: the same but for their order -/
theorem perm_of_le : ∀ {A B : List RowL}, (∀ r, A.count r ≤ B.count r) → B.length = A.length → B.Perm A
  | [], B, _, h => by rw [List.eq_nil_of_length_eq_zero h]
  | x :: A, B, h, hl => by
    have hx : x ∈ B := by
      have := h x
      rw [List.count_cons_self] at this
      exact List.count_pos_iff.1 (by omega)
    refine (List.perm_cons_erase hx).trans (List.Perm.cons x (perm_of_le (fun r => ?_) ?_))
    · have := h r
      rw [List.count_erase, List.count_cons] at *
      by_cases e : x = r
      · subst e; simp at *; omega
      · have e1 : (x == r) = false := beq_eq_false_iff_ne.2 e
        simp [e1] at *; omega
    · rw [List.length_erase_of_mem hx, hl]; rfl
theorem same_is {V U : List (List UInt8)} {R S : List RowL} (hV : rightT V R = true) : sameRowsB V R U S = true ↔ R.length = S.length ∧ V.length = U.length ∧ (∀ x ∈ V, x ∈ U) ∧ R.Perm (projP V U S) := by
  obtain ⟨hn, _, _, _, hr⟩ := right_nodup hV
  have hl := fun r hr' => (hr r hr').1
  unfold sameRowsB
  simp only [Bool.and_eq_true, decide_eq_true_eq, List.all_eq_true]
  constructor
  · rintro ⟨⟨⟨h1, h2⟩, h3⟩, h4⟩
    refine ⟨h1, h2, h3, (perm_of_le (fun r => ?_) ?_).symm⟩
    · by_cases hm : r ∈ R
      · have := h4 r hm
        rw [times_is (hl r hm), times_is (hl r hm), proj_all hn hl] at this
        omega
      · rw [List.count_eq_zero_of_not_mem hm]; exact Nat.zero_le _
    · rw [(proj_len V U S).1, h1]
  · rintro ⟨h1, h2, h3, h4⟩
    refine ⟨⟨⟨h1, h2⟩, h3⟩, fun r hm => ?_⟩
    rw [times_is (hl r hm), times_is (hl r hm), proj_all hn hl]
    exact h4.count_eq r
theorem same_self {V : List (List UInt8)} {R : List RowL} (hV : rightT V R = true) : sameRowsB V R V R = true := by
  obtain ⟨hn, _, _, _, hr⟩ := right_nodup hV
  refine (same_is hV).2 ⟨rfl, rfl, fun x hx => hx, ?_⟩
  rw [proj_all hn (fun r h => (hr r h).1)]
theorem same_perm {V : List (List UInt8)} {A R : List RowL} (h : A.Perm R) : sameRowsB V A V R = true := by
  refine same_yes h.length_eq rfl (by simp) ?_
  rw [List.all_eq_true]
  intro r _
  rw [decide_eq_true_eq]
  unfold timesP
  exact h.countP_eq _
theorem right_perm {V : List (List UInt8)} {A R : List RowL} (h : A.Perm R) (hr : rightT V R = true) : rightT V A = true := by
  unfold rightT at *
  simp only [Bool.and_eq_true, decide_eq_true_eq, List.all_eq_true] at *
  obtain ⟨⟨⟨h1, h2⟩, h3⟩, h4⟩ := hr
  exact ⟨⟨⟨h1, by rw [h.length_eq]; exact h2⟩, h3⟩, fun r hm => h4 r (h.mem_iff.1 hm)⟩

/- how often each row is open, by its text -/
structure Opn (T : List RowL) (k : Nat) (N : RowL → Nat) (f : List UInt8 → Option Int) : Prop where
  has : ∀ x v, f x = some v → ∃ r ∈ T.take k, txtN (idsP T k).1 r = x
  val : ∀ r ∈ T.take k, (f (txtN (idsP T k).1 r)).getD 0 = (N r : Int)
  out : ∀ r, r ∉ T.take k → N r = 0
theorem opn_zero (T : List RowL) : Opn T 0 (fun _ => 0) (fun _ => none) := ⟨(fun _ _ h => nomatch h), fun r hr => by rw [List.take_zero] at hr; exact absurd hr List.not_mem_nil, fun _ _ => rfl⟩
theorem txt_at {T : List RowL} {k : Nat} (hk : k < T.length) {r : RowL} (hr : r ∈ T.take k) (e : txtN (idsP T k).1 r = txtN (idsP T (k + 1)).1 T[k]) : r = T[k] := by
  obtain ⟨h1, h2⟩ := num_at T (k + 1)
  rw [List.take_succ_eq_append_getElem hk] at h2
  rw [← came_old hk hr] at e
  exact txt_one h1 (h2 r (List.mem_append_left _ hr)) (h2 T[k] (List.mem_append_right _ (List.mem_singleton.2 rfl))) e
theorem Opn.see {T : List RowL} {k : Nat} {N : RowL → Nat} {f : List UInt8 → Option Int} (h : Opn T k N f) (hk : k < T.length) : (f (txtN (idsP T (k + 1)).1 T[k])).getD 0 = (N T[k] : Int) := by
  by_cases hm : T[k] ∈ T.take k
  · rw [came_old hk hm]; exact h.val _ hm
  · cases hf : f (txtN (idsP T (k + 1)).1 T[k]) with
    | none => rw [h.out _ hm]; rfl
    | some v =>
      obtain ⟨r, hr, e⟩ := h.has _ _ hf
      have := txt_at hk hr e
      subst this
      exact absurd hr hm
theorem Opn.put {T : List RowL} {k : Nat} {N : RowL → Nat} {f : List UInt8 → Option Int} (h : Opn T k N f) (hk : k < T.length) (v : Nat) : Opn T (k + 1) (fun r => if r = T[k] then v else N r) (updG f (txtN (idsP T (k + 1)).1 T[k]) (some (v : Int))) := by
  have ht : ∀ r, r ∈ T.take (k + 1) ↔ r ∈ T.take k ∨ r = T[k] := fun r => by rw [List.take_succ_eq_append_getElem hk, List.mem_append, List.mem_singleton]
  refine ⟨fun x v' hx => ?_, fun r hr => ?_, fun r hr => ?_⟩
  · unfold updG at hx
    split at hx
    · rename_i e
      exact ⟨T[k], (ht _).2 (.inr rfl), e.symm⟩
    · obtain ⟨r, hr, e⟩ := h.has _ _ hx
      exact ⟨r, (ht _).2 (.inl hr), by rw [came_old hk hr]; exact e⟩
  · unfold updG
    by_cases e : r = T[k]
    · subst e
      rw [if_pos rfl, if_pos rfl]; rfl
    · have hr' : r ∈ T.take k := ((ht r).1 hr).resolve_right e
      rw [if_neg e, if_neg (fun c => e (txt_at hk hr' (by rw [← came_old hk hr']; exact c))), came_old hk hr']
      exact h.val r hr'
  · have h1 := fun c => hr ((ht r).2 c)
    rw [if_neg (fun c => h1 (.inr c)), h.out r (fun c => h1 (.inl c))]
theorem Opn.cong {T : List RowL} {k : Nat} {N M : RowL → Nat} {f : List UInt8 → Option Int} (h : Opn T k N f) (e : ∀ r, N r = M r) : Opn T k M f := by
  have : N = M := funext e
  rw [← this]; exact h
/- the first table's rows are counted -/
def cntR (R : List RowL) (k : Nat) (r : RowL) : Nat := (R.take k).count r
theorem cnt_more {R : List RowL} {k : Nat} (hk : k < R.length) (r : RowL) : (if r = R[k] then cntR R k R[k] + 1 else cntR R k r) = cntR R (k + 1) r := by
  unfold cntR
  rw [List.take_succ_eq_append_getElem hk, List.count_append, List.count_singleton]
  by_cases e : r = R[k]
  · subst e; simp
  · have e' : (R[k] == r) = false := beq_eq_false_iff_ne.2 (fun c => e c.symm)
    rw [if_neg e, e']; simp
/- the second one's are taken off -/
def offR (R P : List RowL) (j : Nat) (r : RowL) : Nat := R.count r - (P.take j).count r
theorem off_zero (R P : List RowL) (r : RowL) : cntR R R.length r = offR R P 0 r := by unfold cntR offR; rw [List.take_length, List.take_zero]; simp
theorem off_more {R P : List RowL} {j : Nat} (hj : j < P.length) (r : RowL) : (if r = P[j] then offR R P j P[j] - 1 else offR R P j r) = offR R P (j + 1) r := by
  unfold offR at *
  rw [List.take_succ_eq_append_getElem hj, List.count_append, List.count_singleton]
  by_cases e : r = P[j]
  · subst e; simp; omega
  · have e' : (P[j] == r) = false := beq_eq_false_iff_ne.2 (fun c => e c.symm)
    rw [if_neg e, e']; simp
def FitsP (R P : List RowL) (j : Nat) : Prop := ∀ r, (P.take j).count r ≤ R.count r
theorem fits_zero (R P : List RowL) : FitsP R P 0 := fun r => by rw [List.take_zero]; exact Nat.zero_le _
theorem fits_more {R P : List RowL} {j : Nat} (h : FitsP R P j) (hj : j < P.length) (h0 : offR R P j P[j] ≠ 0) : FitsP R P (j + 1) := by
  intro r
  have := h r
  unfold offR at h0
  rw [List.take_succ_eq_append_getElem hj, List.count_append, List.count_singleton]
  by_cases e : P[j] = r
  · subst e; simp; omega
  · have e' : (P[j] == r) = false := beq_eq_false_iff_ne.2 e
    rw [e']; simp; omega
theorem fits_not {R P : List RowL} {j : Nat} (hj : j < P.length) (h0 : offR R P j P[j] = 0) : ¬ R.Perm P := by
  intro h
  have h1 := h.count_eq P[j]
  have h2 : (P.take (j + 1)).count P[j] ≤ P.count P[j] := (List.take_sublist _ _).count_le _
  unfold offR at h0
  rw [List.take_succ_eq_append_getElem hj, List.count_append, List.count_singleton] at h2
  simp at h2
  omega
theorem fits_all {R P : List RowL} (h : FitsP R P P.length) (hl : R.length = P.length) : R.Perm P := perm_of_le (fun r => by have := h r; rwa [List.take_length] at this) hl

/- which variables are left -/
def leftN (V U : List (List UInt8)) : Nat := (V.filter fun x => decide (x ∉ U)).length
theorem leftN_nil (V : List (List UInt8)) : leftN V [] = V.length := by unfold leftN; simp
theorem leftN_snoc {V : List (List UInt8)} (hn : V.Nodup) (U : List (List UInt8)) (x : List UInt8) : leftN V (U ++ [x]) = if x ∈ V ∧ x ∉ U then leftN V U - 1 else leftN V U := by
  unfold leftN
  have e : (V.filter fun y => decide (y ∉ U ++ [x])) = (V.filter fun y => decide (y ∉ U)).erase x := by
    rw [List.Nodup.erase_eq_filter (List.Pairwise.filter _ hn), List.filter_filter]
    refine List.filter_congr (fun y _ => ?_)
    by_cases h1 : y ∈ U <;> by_cases h2 : y = x <;> simp [h1, h2]
  rw [e, List.length_erase]
  by_cases h : x ∈ V ∧ x ∉ U
  · rw [if_pos h, if_pos (List.mem_filter.2 ⟨h.1, by simpa using h.2⟩)]
  · rw [if_neg h, if_neg (fun c => h ⟨(List.mem_filter.1 c).1, by simpa using (List.mem_filter.1 c).2⟩)]
theorem leftN_zero (V U : List (List UInt8)) : leftN V U = 0 ↔ ∀ x ∈ V, x ∈ U := by
  unfold leftN
  rw [List.length_eq_zero_iff, List.filter_eq_nil_iff]
  simp
/- the columns that are left, as a map -/
def leftM (V U : List (List UInt8)) : List UInt8 → Option Int := fun x => if x ∈ U then none else colF V x
theorem leftM_nil (V : List (List UInt8)) : leftM V [] = colF V := by funext x; unfold leftM; simp
theorem leftM_snoc (V U : List (List UInt8)) (x : List UInt8) : updG (leftM V U) x none = leftM V (U ++ [x]) := by
  funext y
  unfold leftM updG
  by_cases e : y = x
  · subst e; simp
  · by_cases hu : y ∈ U <;> simp [e, hu]
theorem leftM_some (V U : List (List UInt8)) (x : List UInt8) : (leftM V U x).isSome = decide (x ∈ V ∧ x ∉ U) := by
  unfold leftM
  by_cases hu : x ∈ U
  · rw [if_pos hu]; simp [hu]
  · rw [if_neg hu, colF_some]; simp [hu]

end Go.Proofs.YtdnfaoanaehjhaaGreatDoor

/- A table's rows, turned, in plain words (no program). -/
namespace Go.Proofs.YtdnfaoanaehjhaaGreatDoor
open Go.RowKit

def turnR (R : List RowL) (d : Nat) : List RowL := R.drop d ++ R.take d
theorem turn_perm (R : List RowL) (d : Nat) : (turnR R d).Perm R := by
  unfold turnR
  exact List.perm_append_comm.trans (by rw [List.take_append_drop])
theorem turn_len (R : List RowL) (d : Nat) : (turnR R d).length = R.length := (turn_perm R d).length_eq
theorem turn_at {R : List RowL} {d i : Nat} (hd : d < R.length) (hi : i < R.length) : (turnR R d)[i]'(by rw [turn_len]; exact hi) = R[(i + d) % R.length]'(Nat.mod_lt _ (by omega)) := by
  unfold turnR
  by_cases h : i + d < R.length
  · have e : (i + d) % R.length = d + i := by rw [Nat.mod_eq_of_lt h]; omega
    rw [List.getElem_append_left (by rw [List.length_drop]; omega), List.getElem_drop]
    simp only [e]
  · have e : (i + d) % R.length = i - (R.length - d) := by
      rw [Nat.mod_eq_sub_mod (by omega), Nat.mod_eq_of_lt (by omega)]; omega
    rw [List.getElem_append_right (by rw [List.length_drop]; omega), List.getElem_take]
    simp only [e, List.length_drop]
theorem turn_more {R : List RowL} {d i : Nat} (hd : d < R.length) (hi : i < R.length) : (turnR R d).take i ++ [R[(i + d) % R.length]'(Nat.mod_lt _ (by omega))] = (turnR R d).take (i + 1) := by
  rw [← turn_at hd hi, ← List.take_succ_eq_append_getElem]
theorem order_turn {V : List (List UInt8)} {K : List KeyL} {R : List RowL} (hr : rightT V R = true) (d : Nat) : orderP (aheadP V K) (turnR R d) = orderP (aheadP V K) R :=
  order_same (ahead_anti V K) (ahead_trans V K) (fun a ha b hb h => ahead_zero ((right_nodup hr).2.2.2.2 a ha).1 ((right_nodup hr).2.2.2.2 b hb).1 h) (turn_perm R d)
theorem order_pair (V : List (List UInt8)) (K : List KeyL) (R : List RowL) {i : Nat} (hi : i + 1 < (orderP (aheadP V K) R).length) : ¬ aheadP V K (orderP (aheadP V K) R)[i + 1] (orderP (aheadP V K) R)[i] < 0 := by
  have h1 := risen_pair (order_risen (ahead_anti V K) (ahead_trans V K) R) hi
  have h2 := ahead_anti V K (orderP (aheadP V K) R)[i] (orderP (aheadP V K) R)[i + 1]
  omega

end Go.Proofs.YtdnfaoanaehjhaaGreatDoor

/- Which numbers are right: package number's own test and the document's, for every number. -/
namespace Go.Proofs.YtdnfaoanaehjhaaGreatDoor.Nm
open Go.RowKit

set_option maxHeartbeats 400000 in
theorem bounded_calls (v : Int) (w : World) :
    Calls Tryz.prog 135 #[.int .i64 v] w fun e w' => e = .returned (.bool (boundZ v)) ∧ w' = w := by
  by_cases h1 : -999999999 ≤ v <;> by_cases h2 : v ≤ 999999999 <;> go_enter Tryz.func135, Tryz.ntmps135 <;> go_wp2 <;> go_ret <;> exact ⟨by simp [boundZ, *], rfl⟩

theorem right_cases (v s : Int) (d : Bool) : (boundZ v = false ∧ rightZ v s d = false) ∨ (boundZ v = true ∧ ¬ 0 ≤ s ∧ rightZ v s d = false) ∨ (boundZ v = true ∧ 0 ≤ s ∧ ¬ s ≤ 4 ∧ rightZ v s d = false) ∨
    (boundZ v = true ∧ 0 ≤ s ∧ s ≤ 4 ∧ s = 0 ∧ rightZ v s d = true) ∨ (boundZ v = true ∧ 1 ≤ s ∧ s ≤ 4 ∧ (s == 0) = false ∧ d = false ∧ rightZ v s d = false) ∨
    (boundZ v = true ∧ 1 ≤ s ∧ s ≤ 4 ∧ (s == 0) = false ∧ d = true ∧ (v.tmod 10 != 0) = true ∧ rightZ v s d = true) ∨ (boundZ v = true ∧ 1 ≤ s ∧ s ≤ 4 ∧ (s == 0) = false ∧ d = true ∧ (v.tmod 10 != 0) = false ∧ rightZ v s d = false) := by
  cases hb : boundZ v
  · left; simp [rightZ, hb]
  by_cases h0 : 0 ≤ s
  · by_cases h4 : s ≤ 4
    · by_cases hz : s = 0
      · right; right; right; left; simp [rightZ, hb, hz]
      · have h1 : 1 ≤ s := by omega
        cases d
        · right; right; right; right; left; simp [rightZ, hb, hz, h1, h4]
        · by_cases hm : v.tmod 10 = 0
          · right; right; right; right; right; right; simp [rightZ, hb, hz, h1, h4, hm]
          · right; right; right; right; right; left; simp [rightZ, hb, hz, h1, h4, hm]; omega
    · right; right; left; simp [rightZ, h0, h4]
  · right; left; simp [rightZ, h0]

set_option maxHeartbeats 1000000 in
theorem right_calls (v s : Int) (d : Bool) (w : World) :
    Calls Tryz.prog 119 #[.agg #[.int .i64 v, .int .i64 s, .bool d]] w fun e w' => e = .returned (.bool (rightZ v s d)) ∧ Below w.heap.size w w' := by
  rcases right_cases v s d with ⟨hb, hr⟩ | ⟨hb, h1, hr⟩ | ⟨hb, h1, h2, hr⟩ | ⟨hb, h1, h2, hz, hr⟩ | ⟨hb, h1, h2, hs, hd, hr⟩ | ⟨hb, h1, h2, hs, hd, hm, hr⟩ | ⟨hb, h1, h2, hs, hd, hm, hr⟩
  all_goals
    have HB := Lib.hid hb
    have HR := Lib.hid hr
    clear hb hr
    try subst hz
    try subst hd
    go_enter Tryz.func119, Tryz.ntmps119
    go_wp2_with (go_at_call 135; refine (bounded_calls _ _).mono ?_; rintro e w' ⟨rfl, rfl⟩; rw [HB.out])
    go_ret
    exact ⟨ret_bool (by rw [HR.out]), box_below _ _⟩

def errZ (b : Bool) : Int := if b then 0 else 2

theorem bound_cases (v : Int) : (boundZ v = true ∧ ¬ v < -999999999 ∧ ¬ 999999999 < v) ∨ (boundZ v = false ∧ v < -999999999) ∨ (boundZ v = false ∧ ¬ v < -999999999 ∧ 999999999 < v) := by
  simp only [boundZ, decide_eq_true_eq, decide_eq_false_iff_not]
  omega

set_option maxHeartbeats 400000 in
theorem rTen_calls (k : Nat) (w : World) (hk : k ≤ 18) :
    Calls Tryz.prog 101 #[.int .i64 k] w fun e w' => e = .returned (.int .i64 (ten k)) ∧ w' = w := by
  have hpos : ∀ i : Nat, i ≤ 18 → 1 ≤ ten i ∧ ten i ≤ 1000000000000000000 := by decide
  have HP := Lib.hid hpos
  clear hpos
  go_enter Tryz.func101, Tryz.ntmps101
  go_wp2
  go_loop [3, 4] (fun n i => ∃ j : Nat, j ≤ k ∧ i = .int .i64 j ∧ n = .int .i64 (ten j)) (fun _ i => k - (intOf i).toNat)
  case atStart => exact ⟨0, Nat.zero_le _, rfl, rfl⟩
  case round =>
    obtain ⟨j, hj, rfl, rfl⟩ := hrel
    by_cases hlt : j < k
    · obtain ⟨T, hT⟩ : ∃ T, ten j = T := ⟨_, rfl⟩
      have h1 : ten (j + 1) = 10 * T := by rw [← hT]; rfl
      have b2 : ten (j + 1) ≤ 1000000000000000000 := (HP.out (j + 1) (by omega)).2
      have b1 : 1 ≤ T := by rw [← hT]; exact (HP.out j (by omega)).1
      have b3 : 10 * T ≤ 1000000000000000000 := by omega
      have H1 := Lib.hid h1
      rw [hT]
      clear h1 b2 hT
      go_wp2
      go_round
      case rel => exact ⟨j + 1, by omega, by go_num, by rw [H1.out]; go_num⟩
      case measure => simp [intOf]; omega
    · go_wp2
      go_ret
      exact ⟨ret_int (by rw [show j = k by omega]), rfl⟩

end Go.Proofs.YtdnfaoanaehjhaaGreatDoor.Nm

/- A value and a scale cut down, by package number (at one stroke by its table of powers) and by the document (a digit at a time): the same, for every value and every scale up to 12. -/
namespace Go.Proofs.YtdnfaoanaehjhaaGreatDoor.Nm
open Go.RowKit

theorem strip_yes (k : Nat) (x : Int) (h : x.tmod 10 = 0) : strip (k + 1) x = strip k (x.tdiv 10) := by rw [strip, if_pos h]
theorem strip_no (k : Nat) (x : Int) (h : ¬ x.tmod 10 = 0) : strip (k + 1) x = (x, k + 1) := by rw [strip, if_neg h]
theorem ret_two {a b c d : Int} (h : a = c) (h' : b = d) : Ending.returned (.tuple #[.int .i64 a, .int .i64 b]) = .returned (.tuple #[.int .i64 c, .int .i64 d]) := by rw [h, h']
theorem ten_pos (k : Nat) : 1 ≤ ten k := by
  induction k with
  | zero => decide
  | succ k ih => show 1 ≤ 10 * ten k; omega
theorem pow_ten (k : Nat) (h : k < 9) : powTab.getD k 0 = ten k := by
  match k, h with
  | 0, _ => rfl
  | 1, _ => rfl
  | 2, _ => rfl
  | 3, _ => rfl
  | 4, _ => rfl
  | 5, _ => rfl
  | 6, _ => rfl
  | 7, _ => rfl
  | 8, _ => rfl
  | k + 9, h => omega

set_option maxHeartbeats 1000000 in
theorem cutDown_calls (v : Int) (s : Nat) (w : World) (hg : Good w) (hs : s ≤ 12) (h1 : -9223372036854775807 ≤ v) (h2 : v ≤ 9223372036854775807) :
    Calls Tryz.prog 159 #[.int .i64 v, .int .i64 s] w fun e w' => e = .returned (.tuple #[.int .i64 (cutZ v s).1, .int .i64 (cutZ v s).2]) ∧ w' = w := by
  obtain ⟨R, hR⟩ : ∃ R, cutZ v s = R := ⟨_, rfl⟩
  rw [hR]
  by_cases h4 : s ≤ 4
  · have hR' : strip s v = R := by rw [← hR]; unfold cutZ; rw [show min s 4 = s by omega, show s - 4 = 0 by omega]; simp [ten]
    have HR := Lib.hid hR'
    clear hR hR'
    go_enter Tryz.func159, Tryz.ntmps159
    go_wp2
    go_loop [0, 1] (fun a b => ∃ (x : Int) (k : Nat), k ≤ 4 ∧ -9223372036854775807 ≤ x ∧ x ≤ 9223372036854775807 ∧ a = .int .i64 x ∧ b = .int .i64 k ∧ Hid (strip k x = R)) (fun _ b => (intOf b).toNat)
    case atStart => exact ⟨v, s, h4, h1, h2, rfl, rfl, HR⟩
    case round =>
      obtain ⟨x, k, hk, hx1, hx2, rfl, rfl, HX⟩ := hrel
      cases k with
      | zero =>
        go_wp2
        go_ret2
        exact ⟨by rw [← HX.out]; rfl, rfl⟩
      | succ k =>
        have hq := tdiv_le x 10 (by omega) 9223372036854775807 hx1 hx2
        obtain ⟨q1, q2⟩ := hq
        by_cases hm : x.tmod 10 = 0
        · have g : (x.tmod 10 == 0) = true := beq_iff_eq.2 hm
          have HS := Lib.hid (strip_yes k x hm)
          clear hm
          go_wp2
          go_round
          case rel => exact ⟨x.tdiv 10, k, by omega, q1, q2, rfl, by go_num, Lib.hid (by rw [← HS.out, HX.out])⟩
          case measure => simp [intOf]
        · have g : (x.tmod 10 == 0) = false := beq_eq_false_iff_ne.2 hm
          have HS := Lib.hid (strip_no k x hm)
          clear hm
          go_wp2
          go_ret2
          exact ⟨by rw [← HX.out, HS.out]; rfl, rfl⟩
  · have hc := hg.cell (s - 4) (by omega)
    rw [pow_ten _ (by omega)] at hc
    have hR' : strip 4 (v.tdiv (ten (s - 4))) = R := by rw [← hR]; unfold cutZ; rw [show min s 4 = 4 by omega]
    have hp := ten_pos (s - 4)
    obtain ⟨T, hT⟩ : ∃ T, ten (s - 4) = T := ⟨_, rfl⟩
    rw [hT] at hc hR' hp
    have HR := Lib.hid hR'
    clear hR hR' hT
    have hq := tdiv_le v T hp 9223372036854775807 h1 h2
    obtain ⟨q1, q2⟩ := hq
    go_enter Tryz.func159, Tryz.ntmps159
    go_wp2
    go_loop [0, 1] (fun a b => ∃ (x : Int) (k : Nat), k ≤ 4 ∧ -9223372036854775807 ≤ x ∧ x ≤ 9223372036854775807 ∧ a = .int .i64 x ∧ b = .int .i64 k ∧ Hid (strip k x = R)) (fun _ b => (intOf b).toNat)
    case atStart => exact ⟨v.tdiv T, 4, by omega, q1, q2, rfl, rfl, HR⟩
    case round =>
      clear hc q1 q2 hp
      obtain ⟨x, k, hk, hx1, hx2, rfl, rfl, HX⟩ := hrel
      cases k with
      | zero =>
        go_wp2
        go_ret2
        exact ⟨by rw [← HX.out]; rfl, rfl⟩
      | succ k =>
        have hq := tdiv_le x 10 (by omega) 9223372036854775807 hx1 hx2
        obtain ⟨q1, q2⟩ := hq
        by_cases hm : x.tmod 10 = 0
        · have g : (x.tmod 10 == 0) = true := beq_iff_eq.2 hm
          have HS := Lib.hid (strip_yes k x hm)
          clear hm
          go_wp2
          go_round
          case rel => exact ⟨x.tdiv 10, k, by omega, q1, q2, rfl, by go_num, Lib.hid (by rw [← HS.out, HX.out])⟩
          case measure => simp [intOf]
        · have g : (x.tmod 10 == 0) = false := beq_eq_false_iff_ne.2 hm
          have HS := Lib.hid (strip_no k x hm)
          clear hm
          go_wp2
          go_ret2
          exact ⟨by rw [← HX.out, HS.out]; rfl, rfl⟩

end Go.Proofs.YtdnfaoanaehjhaaGreatDoor.Nm

/- A number made of a value and a scale, by package number and by the document: the same, for every value and every scale up to 12. -/
namespace Go.Proofs.YtdnfaoanaehjhaaGreatDoor.Nm
open Go.RowKit

/- a number and its mark as the results of a call -/
def NumL.ret (p : NumL × Bool) : Value := .tuple #[p.1.val, .bool p.2]

theorem madeL_no (v : Int) (s : Nat) (d : Bool) (h : boundZ (cutZ v s).1 = false) : madeL v s d = (noNum, false) := by unfold madeL; rw [if_neg (by rw [h]; simp)]
theorem madeL_yes (v : Int) (s : Nat) (d : Bool) (h : boundZ (cutZ v s).1 = true) : madeL v s d = (⟨(cutZ v s).1, (cutZ v s).2, d⟩, true) := by unfold madeL; rw [if_pos h]
theorem cut_le (v : Int) (s : Nat) : (cutZ v s).2 ≤ 4 := Nat.le_trans (strip_le _ _) (Nat.min_le_right _ _)

set_option maxHeartbeats 1000000 in
theorem made_calls (v : Int) (s : Nat) (d : Bool) (w : World) (hg : Good w) (hs : s ≤ 12) (h1 : -9223372036854775807 ≤ v) (h2 : v ≤ 9223372036854775807) :
    Calls Tryz.prog 142 #[.int .i64 v, .int .i64 s, .bool d] w fun e w' => e = .returned (NumL.ret (madeL v s d)) ∧ Below w.heap.size w w' := by
  have E : boundZ (cutZ v s).1 = true ∨ boundZ (cutZ v s).1 = false := by cases boundZ (cutZ v s).1 <;> simp
  have hcut : ∀ o, Calls Tryz.prog 159 #[.int .i64 v, .int .i64 s] (w.alloc o) fun e w' => e = .returned (.tuple #[.int .i64 (cutZ v s).1, .int .i64 (cutZ v s).2]) ∧ w' = w.alloc o := fun o => cutDown_calls v s (w.alloc o) (hg.alloc o) hs h1 h2
  have HC := Lib.hid hcut
  clear hcut
  rcases E with hb | hb
  · have HM := Lib.hid (madeL_yes v s d hb)
    have HB := Lib.hid hb
    clear hb
    generalize cutZ v s = p at HC HB HM
    obtain ⟨x, k⟩ := p
    simp only at HB HM
    go_enter Tryz.func142, Tryz.ntmps142
    go_wp2_with (first | (go_at_call 159; refine (HC.out _).mono ?_; rintro e w' ⟨rfl, rfl⟩) | (go_at_call 135; refine (bounded_calls _ _).mono ?_; rintro e w' ⟨rfl, rfl⟩; rw [HB.out]))
    refine bodyPost_ret (v := .tuple #[.agg #[.int .i64 x, .int .i64 k, .bool d], .bool true]) (by simp [results, Tryz.results142, go_sem]) rfl ⟨by rw [HM.out]; rfl, ?_⟩
    exact box_below _ _
  · have HM := Lib.hid (madeL_no v s d hb)
    have HB := Lib.hid hb
    clear hb
    generalize cutZ v s = p at HC HB HM
    obtain ⟨x, k⟩ := p
    simp only at HB HM
    go_enter Tryz.func142, Tryz.ntmps142
    go_wp2_with (first | (go_at_call 159; refine (HC.out _).mono ?_; rintro e w' ⟨rfl, rfl⟩) | (go_at_call 135; refine (bounded_calls _ _).mono ?_; rintro e w' ⟨rfl, rfl⟩; rw [HB.out]))
    refine bodyPost_ret (v := .tuple #[.agg #[.int .i64 0, .int .i64 0, .bool false], .bool false]) (by simp [results, Tryz.results142, go_sem]) rfl ⟨by rw [HM.out]; rfl, ?_⟩
    exact box_below _ _

/- what a reckoning comes to: a number, or that there is none -/
def overZ (b : Bool) : Int := if b then 0 else 5
def reckL (p : NumL × Bool) : Value := .tuple #[p.1.val, .int .i64 (overZ p.2)]
theorem madeL_false {v : Int} {s : Nat} {d : Bool} (h : (madeL v s d).2 = false) : madeL v s d = (noNum, false) := by
  unfold madeL at h ⊢
  split at h
  · cases h
  · rename_i g; rw [if_neg g]

set_option maxHeartbeats 1000000 in
theorem reckoned_calls (v : Int) (s : Nat) (d : Bool) (w : World) (hg : Good w) (hs : s ≤ 12) (h1 : -9223372036854775807 ≤ v) (h2 : v ≤ 9223372036854775807) :
    Calls Tryz.prog 123 #[.int .i64 v, .int .i64 s, .bool d] w fun e w' => e = .returned (reckL (madeL v s d)) ∧ Below w.heap.size w w' := by
  have hm : ∀ W, Good W → Calls Tryz.prog 142 #[.int .i64 v, .int .i64 s, .bool d] W fun e w' => e = .returned (NumL.ret (madeL v s d)) ∧ Below W.heap.size W w' := fun W hW => made_calls v s d W hW hs h1 h2
  have HM := Lib.hid hm
  have HF := Lib.hid (@madeL_false v s d)
  have HG := Lib.hid hg
  clear hm hg
  generalize madeL v s d = p at HM HF
  obtain ⟨⟨x, k, d'⟩, b⟩ := p
  go_enter Tryz.func123, Tryz.ntmps123
  go_wp2_with fail
  refine (HM.out _ (HG.out.alloc _)).mono ?_
  rintro e w1 ⟨rfl, hb1⟩
  simp only [NumL.ret, NumL.val]
  obtain ⟨hc, hf⟩ := bcell hb1
  have hz : w.heap.size < w1.heap.size := by have := hb1.size; simp at this; omega
  cases b with
  | true =>
    go_wp2
    refine bodyPost_ret (v := .tuple #[.agg #[.int .i64 x, .int .i64 k, .bool d'], .int .i64 0]) (by simp [results, Tryz.results123, hc, hz, go_sem]) rfl ⟨rfl, ?_⟩
    exact ((((one_box hb1).setCell (Nat.le_refl _) _).setCell (Nat.le_refl _) _).setCell (Nat.le_refl _) _).alloc (by simp; omega) _
  | false =>
    have e := HF.out rfl
    simp only [noNum, Prod.mk.injEq, NumL.mk.injEq, and_true] at e
    obtain ⟨rfl, rfl, rfl⟩ := e
    go_wp2
    refine bodyPost_ret (v := .tuple #[.agg #[.int .i64 0, .int .i64 0, .bool false], .int .i64 5]) (by simp [results, Tryz.results123, hc, hz, go_sem]) rfl ⟨rfl, ?_⟩
    exact ((((one_box hb1).setCell (Nat.le_refl _) _).setCell (Nat.le_refl _) _).setCell (Nat.le_refl _) _).alloc (by simp; omega) _

end Go.Proofs.YtdnfaoanaehjhaaGreatDoor.Nm
