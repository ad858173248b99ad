/- ShpNumPlain, ShpDistPlain, put together. -/
import Derived.Test.YtkfemnjblbnclaaGreatDoorGOrder
import Derived.Lib.ItoaMem
import Derived.Lib.ItoaLen

/- A row's text by numbers of its terms, in plain words (no program): two rows have one text just if they are the same. -/
namespace Go.Proofs.YtkfemnjblbnclaaGreatDoor

def valD (l : List UInt8) : Nat := l.foldl (fun v c => 10 * v + (c.toNat - 48)) 0
theorem valD_snoc (l : List UInt8) (c : UInt8) : valD (l ++ [c]) = 10 * valD l + (c.toNat - 48) := by unfold valD; rw [List.foldl_append]; rfl
theorem dec_val (u : Nat) : valD (Lib.decDigits u) = u ∧ ∀ c ∈ Lib.decDigits u, 48 ≤ c.toNat := by
  induction u using Nat.strongRecOn with
  | ind u ih =>
    have h8 : ∀ d, d < 10 → (UInt8.ofNat (48 + d)).toNat = 48 + d := fun d hd => by
      show (48 + d) % 256 = 48 + d
      omega
    by_cases h : u < 10
    · rw [Lib.decDigits, dif_pos h]
      refine ⟨?_, fun c hc => ?_⟩
      · show 10 * 0 + ((UInt8.ofNat (48 + u)).toNat - 48) = u
        rw [h8 u h]; omega
      · rw [List.mem_singleton] at hc
        rw [hc, h8 u h]; omega
    · obtain ⟨i1, i2⟩ := ih (u / 10) (by omega)
      rw [Lib.decDigits, dif_neg h]
      refine ⟨?_, fun c hc => ?_⟩
      · rw [valD_snoc, i1, h8 _ (Nat.mod_lt _ (by omega))]; omega
      · rcases List.mem_append.1 hc with hc | hc
        · exact i2 c hc
        · rw [List.mem_singleton] at hc
          rw [hc, h8 _ (Nat.mod_lt _ (by omega))]; omega
theorem itoa_one {a b : Int} (ha : 0 ≤ a) (hb : 0 ≤ b) (h : Lib.itoa a = Lib.itoa b) : a = b := by
  obtain ⟨m, rfl⟩ := Int.eq_ofNat_of_zero_le ha
  obtain ⟨n, rfl⟩ := Int.eq_ofNat_of_zero_le hb
  rw [Lib.itoa_nonneg, Lib.itoa_nonneg] at h
  have := (dec_val m).1
  rw [h, (dec_val n).1] at this
  rw [this]
theorem itoa_mark {a : Int} (ha : 0 ≤ a) : (32 : UInt8) ∉ Lib.itoa a := by
  obtain ⟨m, rfl⟩ := Int.eq_ofNat_of_zero_le ha
  rw [Lib.itoa_nonneg]
  intro h
  have := (dec_val m).2 _ h
  exact absurd this (by decide)
theorem split_mark : ∀ {a b r s : List UInt8}, (32 : UInt8) ∉ a → (32 : UInt8) ∉ b → a ++ 32 :: r = b ++ 32 :: s → a = b ∧ r = s
  | [], [], r, s, _, _, h => ⟨rfl, by simpa using h⟩
  | [], y :: b, r, s, _, hb, h => by
    simp only [List.nil_append, List.cons_append, List.cons.injEq] at h
    exact absurd (by rw [← h.1]; exact List.mem_cons_self) hb
  | x :: a, [], r, s, ha, _, h => by
    simp only [List.nil_append, List.cons_append, List.cons.injEq] at h
    exact absurd (by rw [h.1]; exact List.mem_cons_self) ha
  | x :: a, y :: b, r, s, ha, hb, h => by
    simp only [List.cons_append, List.cons.injEq] at h
    obtain ⟨e1, e2⟩ := split_mark (fun c => ha (List.mem_cons_of_mem _ c)) (fun c => hb (List.mem_cons_of_mem _ c)) h.2
    exact ⟨by rw [h.1, e1], e2⟩

/- terms with numbers -/
abbrev NumT := TermL → Option Int
def NumF (f : NumT) (s : Nat) : Prop := (∀ x v, f x = some v → 0 ≤ v ∧ v < s) ∧ ∀ x y v, f x = some v → f y = some v → x = y
def ExtN (f g : NumT) : Prop := ∀ x v, f x = some v → g x = some v
theorem ext_refl (f : NumT) : ExtN f f := fun _ _ h => h
theorem ExtN.trans {f g h : NumT} (a : ExtN f g) (b : ExtN g h) : ExtN f h := fun x v e => b x v (a x v e)
def putT (f : NumT) (t : TermL) (v : Option Int) : NumT := fun x => if x = t then v else f x
def stepN (p : NumT × Nat) (t : TermL) : NumT × Nat := if (p.1 t).isSome then p else (putT p.1 t (some p.2), p.2 + 1)
def runN (p : NumT × Nat) (r : List TermL) : NumT × Nat := r.foldl stepN p
theorem runN_snoc (p : NumT × Nat) (r : List TermL) (t : TermL) : runN p (r ++ [t]) = stepN (runN p r) t := by unfold runN; rw [List.foldl_append]; rfl
theorem num_none : NumF (fun _ => none) 0 := ⟨(fun _ _ h => nomatch h), (fun _ _ _ h => nomatch h)⟩
theorem step_num {p : NumT × Nat} (h : NumF p.1 p.2) (t : TermL) : NumF (stepN p t).1 (stepN p t).2 := by
  unfold stepN
  split
  · exact h
  · obtain ⟨h1, h2⟩ := h
    refine ⟨fun x v hx => ?_, fun x y v hx hy => ?_⟩
    · unfold putT at hx
      dsimp only at hx ⊢
      split at hx
      · have e : (p.2 : Int) = v := by simpa using hx
        omega
      · have := h1 x v hx; omega
    · unfold putT at hx hy
      dsimp only at hx hy
      split at hx
      · rename_i ex
        split at hy
        · rename_i ey; rw [ex, ey]
        · have e : (p.2 : Int) = v := by simpa using hx
          have := h1 y v hy
          omega
      · split at hy
        · have e : (p.2 : Int) = v := by simpa using hy
          have := h1 x v hx
          omega
        · exact h2 x y v hx hy
theorem step_ext (p : NumT × Nat) (t : TermL) : ExtN p.1 (stepN p t).1 := by
  unfold stepN
  split
  · exact ext_refl _
  · rename_i h
    intro x v hx
    show putT p.1 t _ x = _
    unfold putT
    by_cases e : x = t
    · rw [e] at hx; rw [hx] at h; exact absurd rfl h
    · rw [if_neg e]; exact hx
theorem step_has (p : NumT × Nat) (t : TermL) : ((stepN p t).1 t).isSome = true := by
  unfold stepN
  split
  · assumption
  · show (putT p.1 t _ t).isSome = true
    unfold putT
    rw [if_pos rfl]; rfl
theorem step_le (p : NumT × Nat) (t : TermL) : p.2 ≤ (stepN p t).2 ∧ (stepN p t).2 ≤ p.2 + 1 := by
  unfold stepN
  split
  · omega
  · dsimp only; omega
theorem ext_has {f g : NumT} (h : ExtN f g) {t : TermL} (ht : (f t).isSome = true) : (g t).isSome = true := by
  obtain ⟨v, hv⟩ := Option.isSome_iff_exists.1 ht
  rw [h t v hv]; rfl
theorem run_num {p : NumT × Nat} (h : NumF p.1 p.2) (r : List TermL) : NumF (runN p r).1 (runN p r).2 ∧ ExtN p.1 (runN p r).1 ∧ (∀ t ∈ r, ((runN p r).1 t).isSome = true) ∧ (runN p r).2 ≤ p.2 + r.length := by
  refine snoc_ind (P := fun r => NumF (runN p r).1 (runN p r).2 ∧ ExtN p.1 (runN p r).1 ∧ (∀ t ∈ r, ((runN p r).1 t).isSome = true) ∧ (runN p r).2 ≤ p.2 + r.length) ⟨h, ext_refl _, fun t ht => absurd ht List.not_mem_nil, Nat.le_refl _⟩ (fun l x ih => ?_) r
  obtain ⟨h1, h2, h3, h4⟩ := ih
  rw [runN_snoc]
  refine ⟨step_num h1 x, h2.trans (step_ext _ x), fun t ht => ?_, ?_⟩
  · rcases List.mem_append.1 ht with ht | ht
    · exact ext_has (step_ext _ x) (h3 t ht)
    · rw [List.mem_singleton] at ht; rw [ht]; exact step_has _ x
  · have := (step_le (runN p l) x).2
    rw [List.length_append, List.length_singleton]; omega

/- the text -/
def oneN (f : NumT) (t : TermL) : List UInt8 := Lib.itoa ((f t).getD 0) ++ [32]
def txtN (f : NumT) (r : List TermL) : List UInt8 := r.flatMap (oneN f)
theorem txt_snoc (f : NumT) (r : List TermL) (t : TermL) : txtN f (r ++ [t]) = txtN f r ++ (Lib.itoa ((f t).getD 0) ++ [32]) := by unfold txtN; rw [List.flatMap_append]; simp [oneN]
theorem txt_ext {f g : NumT} (h : ExtN f g) {r : List TermL} (hr : ∀ t ∈ r, (f t).isSome = true) : txtN g r = txtN f r := by
  unfold txtN
  induction r with
  | nil => rfl
  | cons t r ih =>
    rw [List.flatMap_cons, List.flatMap_cons, ih (fun x hx => hr x (List.mem_cons_of_mem _ hx))]
    congr 1
    obtain ⟨v, hv⟩ := Option.isSome_iff_exists.1 (hr t List.mem_cons_self)
    unfold oneN
    rw [hv, h t v hv]
theorem txt_one {f : NumT} {s : Nat} (h : NumF f s) : ∀ {a b : List TermL}, (∀ t ∈ a, (f t).isSome = true) → (∀ t ∈ b, (f t).isSome = true) → txtN f a = txtN f b → a = b
  | [], [], _, _, _ => rfl
  | [], t :: b, _, _, e => by
    unfold txtN oneN at e
    simp at e
  | t :: a, [], _, _, e => by
    unfold txtN oneN at e
    simp at e
  | t :: a, u :: b, ha, hb, e => by
    obtain ⟨v, hv⟩ := Option.isSome_iff_exists.1 (ha t List.mem_cons_self)
    obtain ⟨w, hw⟩ := Option.isSome_iff_exists.1 (hb u List.mem_cons_self)
    have e2 : Lib.itoa v ++ 32 :: txtN f a = Lib.itoa w ++ 32 :: txtN f b := by
      unfold txtN oneN at e ⊢
      rw [List.flatMap_cons, List.flatMap_cons, hv, hw] at e
      simpa using e
    obtain ⟨e3, e4⟩ := split_mark (itoa_mark (h.1 t v hv).1) (itoa_mark (h.1 u w hw).1) e2
    have e5 := itoa_one (h.1 t v hv).1 (h.1 u w hw).1 e3
    rw [← e5] at hw
    rw [h.2 t u v hv hw, txt_one h (fun x hx => ha x (List.mem_cons_of_mem _ hx)) (fun x hx => hb x (List.mem_cons_of_mem _ hx)) e4]
theorem itoa_len {v : Int} (h0 : 0 ≤ v) (h1 : v ≤ 9223372036854775807) : (Lib.itoa v).length ≤ 21 := Lib.itoa_length_le v (by omega) h1

theorem txt_len {f : NumT} {s : Nat} (h : NumF f s) (hs : s ≤ 1000000) (r : List TermL) (hr : ∀ t ∈ r, (f t).isSome = true) : (txtN f r).length ≤ r.length * 22 := by
  induction r with
  | nil => exact Nat.le_refl _
  | cons t r ih =>
    have := ih (fun x hx => hr x (List.mem_cons_of_mem _ hx))
    obtain ⟨v, hv⟩ := Option.isSome_iff_exists.1 (hr t List.mem_cons_self)
    have h2 := h.1 t v hv
    have h3 := itoa_len h2.1 (by omega)
    unfold txtN at this ⊢
    rw [List.flatMap_cons, List.length_append, List.length_cons]
    have e : (oneN f t).length = (Lib.itoa v).length + 1 := by unfold oneN; rw [hv, List.length_append]; rfl
    rw [e]
    omega

end Go.Proofs.YtkfemnjblbnclaaGreatDoor

/- Each row once, in plain words (no program): by the numbers' texts. -/
namespace Go.Proofs.YtkfemnjblbnclaaGreatDoor

def distP (R : List RowL) : List RowL := R.foldl (fun m x => if x ∈ m then m else m ++ [x]) []
theorem dist_snoc (R : List RowL) (x : RowL) : distP (R ++ [x]) = if x ∈ distP R then distP R else distP R ++ [x] := by unfold distP; rw [List.foldl_append]; rfl
theorem dist_mem (R : List RowL) (x : RowL) : x ∈ distP R ↔ x ∈ R := by
  refine snoc_ind (P := fun R => x ∈ distP R ↔ x ∈ R) Iff.rfl (fun r y ih => ?_) R
  rw [dist_snoc, List.mem_append, ← ih]
  split
  · rename_i h
    exact ⟨fun k => .inl k, fun k => k.elim id (fun k => by rw [List.mem_singleton] at k; rw [k]; exact h)⟩
  · rw [List.mem_append]
theorem dist_le (R : List RowL) : (distP R).length ≤ R.length := by
  refine snoc_ind (P := fun R => (distP R).length ≤ R.length) (Nat.le_refl _) (fun r y ih => ?_) R
  rw [dist_snoc, List.length_append, List.length_singleton]
  split
  · omega
  · rw [List.length_append, List.length_singleton]; omega
theorem dist_nodup (R : List RowL) : (distP R).Nodup := by
  refine snoc_ind (P := fun R => (distP R).Nodup) List.nodup_nil (fun r y ih => ?_) R
  rw [dist_snoc]
  split
  · exact ih
  · rename_i h
    refine List.nodup_append.2 ⟨ih, List.nodup_cons.2 ⟨List.not_mem_nil, List.nodup_nil⟩, fun a ha b hb e => ?_⟩
    rw [List.mem_singleton] at hb
    rw [e, hb] at ha
    exact h ha
theorem dist_same {R : List RowL} (h : R.Nodup) : distP R = R := by
  have : ∀ R : List RowL, R.Nodup → distP R = R := fun R => by
    refine snoc_ind (P := fun R => R.Nodup → distP R = R) (fun _ => rfl) (fun r y ih => ?_) R
    intro hn
    obtain ⟨h1, h2, h3⟩ := List.nodup_append.1 hn
    rw [dist_snoc, ih h1, if_neg (fun c => h3 y c y (List.mem_singleton.2 rfl) rfl)]
  exact this R h
theorem dist_twice (R : List RowL) : distP (distP R) = distP R := dist_same (dist_nodup R)

/- numbers of the terms of k rows -/
def idsP (R : List RowL) (k : Nat) : NumT × Nat := runN (fun _ => none, 0) (R.take k).flatten
theorem num_zero (R : List RowL) : idsP R 0 = (fun _ => none, 0) := by unfold idsP; rw [List.take_zero]; rfl
theorem num_step {R : List RowL} {k : Nat} (hk : k < R.length) : idsP R (k + 1) = runN (idsP R k) R[k] := by
  unfold idsP
  rw [List.take_succ_eq_append_getElem hk, List.flatten_append]
  unfold runN
  rw [List.foldl_append]
  simp
theorem num_at (R : List RowL) (k : Nat) : NumF (idsP R k).1 (idsP R k).2 ∧ (∀ r ∈ R.take k, ∀ t ∈ r, ((idsP R k).1 t).isSome = true) := by
  obtain ⟨h1, _, h3, _⟩ := run_num (p := (fun _ => none, 0)) num_none (R.take k).flatten
  exact ⟨h1, fun r hr t ht => h3 t (List.mem_flatten.2 ⟨r, hr, ht⟩)⟩
theorem num_le {R : List RowL} {n : Nat} (h : ∀ r ∈ R, r.length = n) (k : Nat) : k ≤ R.length → (idsP R k).2 ≤ k * n := by
  intro hk
  induction k with
  | zero => rw [num_zero]; exact Nat.zero_le _
  | succ k ih =>
    have h1 := ih (by omega)
    rw [num_step (by omega), Nat.succ_mul]
    have h2 := (run_num (num_at R k).1 (R[k]'(by omega))).2.2.2
    rw [h _ (List.getElem_mem (by omega))] at h2
    omega

/- how often each text came -/
def Came (R : List RowL) (k : Nat) (f : List UInt8 → Option Int) : Prop :=
  (∀ x v, f x = some v → 1 ≤ v ∧ v ≤ k ∧ ∃ r ∈ R.take k, txtN (idsP R k).1 r = x) ∧ ∀ r ∈ R.take k, (f (txtN (idsP R k).1 r)).isSome = true
theorem came_zero (R : List RowL) : Came R 0 (fun _ => none) := ⟨(fun _ _ h => nomatch h), fun r hr => by rw [List.take_zero] at hr; exact absurd hr List.not_mem_nil⟩
theorem came_old {R : List RowL} {k : Nat} (hk : k < R.length) {r : RowL} (hr : r ∈ R.take k) : txtN (idsP R (k + 1)).1 r = txtN (idsP R k).1 r := by
  have hx := (run_num (num_at R k).1 R[k]).2.1
  rw [← num_step hk] at hx
  exact txt_ext hx ((num_at R k).2 r hr)
theorem came_is {R : List RowL} {k : Nat} (hk : k < R.length) {f : List UInt8 → Option Int} (h : Came R k f) : (f (txtN (idsP R (k + 1)).1 R[k])).isSome = true ↔ R[k] ∈ R.take k := by
  obtain ⟨h1, h2⟩ := num_at R (k + 1)
  rw [List.take_succ_eq_append_getElem hk] at h2
  constructor
  · intro hs
    obtain ⟨v, hv⟩ := Option.isSome_iff_exists.1 hs
    obtain ⟨_, _, r, hr, e⟩ := h.1 _ v hv
    rw [← came_old hk hr] at e
    have := txt_one h1 (h2 r (List.mem_append_left _ hr)) (h2 R[k] (List.mem_append_right _ (List.mem_singleton.2 rfl))) e
    rw [this] at hr
    exact hr
  · intro hm
    rw [came_old hk hm]
    exact h.2 _ hm
theorem came_step {R : List RowL} {k : Nat} (hk : k < R.length) {f g : List UInt8 → Option Int} (h : Came R k f) (hg : ∀ x, g x = if x = txtN (idsP R (k + 1)).1 R[k] then some ((f (txtN (idsP R (k + 1)).1 R[k])).getD 0 + 1) else f x) : Came R (k + 1) g := by
  rw [Came, List.take_succ_eq_append_getElem hk]
  refine ⟨fun x v hv => ?_, fun r hr => ?_⟩
  · rw [hg] at hv
    split at hv
    · rename_i e
      have e2 : (f (txtN (idsP R (k + 1)).1 R[k])).getD 0 + 1 = v := by simpa using hv
      refine ⟨?_, ?_, R[k], List.mem_append_right _ (List.mem_singleton.2 rfl), e.symm⟩
      all_goals
        cases hq : f (txtN (idsP R (k + 1)).1 R[k]) with
        | none => rw [hq, Option.getD_none] at e2; omega
        | some u =>
          have := h.1 _ u hq
          rw [hq, Option.getD_some] at e2; omega
    · obtain ⟨h1, h2, r, hr, e⟩ := h.1 x v hv
      exact ⟨h1, by omega, r, List.mem_append_left _ hr, by rw [came_old hk hr]; exact e⟩
  · rw [hg]
    split
    · rfl
    · rename_i hne
      rcases List.mem_append.1 hr with hr | hr
      · rw [came_old hk hr]; exact h.2 r hr
      · rw [List.mem_singleton] at hr; rw [hr] at hne; exact absurd rfl hne
theorem came_txt {R : List RowL} {n k : Nat} (h : ∀ r ∈ R, r.length = n) (hn : n ≤ 32) (hl : R.length ≤ 4096) (hk : k < R.length) : (txtN (idsP R (k + 1)).1 R[k]).length ≤ 704 := by
  have h1 := num_at R (k + 1)
  have h2 := num_le h (k + 1) (by omega)
  have h5 : (k + 1) * n ≤ 4096 * 32 := Nat.mul_le_mul (by omega) hn
  have := txt_len h1.1 (by omega) R[k] (fun t ht => h1.2 R[k] (by rw [List.take_succ_eq_append_getElem hk]; exact List.mem_append_right _ (List.mem_singleton.2 rfl)) t ht)
  have h6 := h _ (List.getElem_mem hk)
  omega

end Go.Proofs.YtkfemnjblbnclaaGreatDoor
