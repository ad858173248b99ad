/- What a store's calls leave of memory; package store's New, Len, Has, All. Package store's New, Len, Has, All. -/
import Derived.Test.YtnojdchodmogbaaGreatStoHave
import Derived.Test.YtnojdchodmogbaaGreatStoOpens
import Derived.Test.YtnojdchodmogbaaGreatStoAddPlain
import Derived.Test.YtnojdchodmogbaaGreatShelfB
namespace Go.Proofs.YtnojdchodmogbaaGreat
open Go.RowKit

/- all blocks but those of F stand -/
structure Kept (F : Nat → Prop) (w w' : World) : Prop where
  os : w'.os = w.os
  tape : w'.tape = w.tape
  output : w'.output = w.output
  size : w.heap.size ≤ w'.heap.size
  block : ∀ k, k < w.heap.size → ¬ F k → w'.heap[k]? = w.heap[k]?
theorem Kept.refl (F : Nat → Prop) (w : World) : Kept F w w := ⟨rfl, rfl, rfl, Nat.le_refl _, fun _ _ _ => rfl⟩
theorem Kept.of_below {F : Nat → Prop} {w w' : World} (h : Below w.heap.size w w') : Kept F w w' := ⟨h.os, h.tape, h.output, h.size, fun k hk _ => h.block k hk⟩
theorem Kept.below {F : Nat → Prop} {w w' : World} {B : Nat} (h : Kept F w w') (hB : B ≤ w.heap.size) (hF : ∀ k, F k → B ≤ k) : Below B w w' :=
  ⟨h.os, h.tape, h.output, h.size, fun k hk => h.block k (Nat.lt_of_lt_of_le hk hB) (fun c => by have := hF k c; omega)⟩
theorem Kept.then {F G : Nat → Prop} {a b c : World} (h : Kept F a b) (k : Kept G b c) (hG : ∀ i, i < a.heap.size → G i → F i) : Kept F a c :=
  ⟨k.os.trans h.os, k.tape.trans h.tape, k.output.trans h.output, Nat.le_trans h.size k.size, fun i hi hn => (k.block i (Nat.lt_of_lt_of_le hi h.size) (fun c => hn (hG i hi c))).trans (h.block i hi hn)⟩
theorem Kept.of_grown {F : Nat → Prop} {w w' : World} {row : Option Nat} (h : w.grownBy w' row) (hr : ∀ g, row = some g → F g) : Kept F w w' :=
  ⟨h.os, h.tape, h.output, h.size, fun k hk hn => h.block k hk (fun e => hn (hr k e.symm))⟩
theorem Kept.setCell {F : Nat → Prop} (w : World) {p : Addr} (hp : F p.block) (v : Value) : Kept F w (w.setCell p v) :=
  ⟨rfl, rfl, rfl, by simp [World.setCell], fun k _ hn => Below.heap_setCell _ _ _ _ (fun e => hn (by rw [e]; exact hp))⟩
theorem Kept.drew {F : Nat → Prop} {a w : World} (h : Kept F a w) : Kept F a w.drew := ⟨h.os, h.tape, h.output, h.size, h.block⟩

/- the blocks of a store -/
def Foot (b : Nat) (v0 v1 v2 : Value) (k : Nat) : Prop := k = b ∨ v0.ownBlock = some k ∨ v1.ownBlock = some k ∨ v2.ownBlock = some k
theorem sto_foot {w : World} {B b : Nat} {v0 v1 v2 : Value} {L l1 l2 : List TripL} (h : Sto w B b v0 v1 v2 L l1 l2) {k : Nat} (hk : Foot b v0 v1 v2 k) : B ≤ k ∧ k < w.heap.size := by
  rcases hk with rfl | hk | hk | hk
  · exact ⟨h.low, blk_lt h.blk⟩
  · exact h.r0.lt k hk
  · exact h.r1.lt k hk
  · exact h.r2.lt k hk
theorem own_kept {F : Nat → Prop} {w w' : World} {B : Nat} {v : Value} {l : List TripL} (h : Own w B v l) (hk : Kept F w w') (hF : ∀ g, v.ownBlock = some g → ¬ F g) : Own w' B v l := by
  refine ⟨h.1, ?_⟩
  rcases h.2 with h0 | ⟨g, cap, cur, hv, hg, hh, r⟩
  · exact .inl h0
  · exact .inr ⟨g, cap, cur, hv, hg, by rw [hk.block g (Array.getElem?_eq_some_iff.1 hh).1 (hF g (by rw [hv]; rfl))]; exact hh, r⟩
theorem reads_kept {F : Nat → Prop} {w w' : World} {v : Value} {n : Nat} {xs : List Value} (h : Reads w v n xs) (hk : Kept F w w') (hF : ∀ g, v.ownBlock = some g → ¬ F g) : Reads w' v n xs := by
  rcases h with h0 | ⟨g, cap, hv, hg, hn, hm, hc⟩
  · exact .inl h0
  · refine .inr ⟨g, cap, hv, Nat.lt_of_lt_of_le hg hk.size, hn, hm, fun j u hj => ?_⟩
    rw [World.cell?_of_block (w := w) (a := ⟨g, j, none⟩) (hk.block g hg (hF g (by rw [hv]; rfl)))]; exact hc j u hj
theorem blk_kept {F : Nat → Prop} {w w' : World} {X : Nat} {T : TypeId} {a : Array Value} (h : Blk w X T a) (hk : Kept F w w') (hF : ¬ F X) : Blk w' X T a := by
  unfold Blk at *; rw [hk.block X (Array.getElem?_eq_some_iff.1 h).1 hF]; exact h
theorem sto_kept {F : Nat → Prop} {w w' : World} {B b : Nat} {v0 v1 v2 : Value} {L l1 l2 : List TripL} (h : Sto w B b v0 v1 v2 L l1 l2) (hk : Kept F w w') (hF : ∀ k, Foot b v0 v1 v2 k → ¬ F k) : Sto w' B b v0 v1 v2 L l1 l2 :=
  { h with blk := blk_kept h.blk hk (hF b (.inl rfl)), r0 := own_kept h.r0 hk fun g e => hF g (.inr (.inl e)), r1 := own_kept h.r1 hk fun g e => hF g (.inr (.inr (.inl e))), r2 := own_kept h.r2 hk fun g e => hF g (.inr (.inr (.inr e))) }

/- a row lies in no block of another kind -/
theorem own_ne {w : World} {B : Nat} {v : Value} {l : List TripL} {X : Nat} {T : TypeId} {a : Array Value} (h : Own w B v l) (hX : Blk w X T a) (hT : T ≠ 29) : v.ownBlock ≠ some X := by
  intro e
  rcases h.2 with ⟨hv, _⟩ | ⟨g, cap, cur, hv, hg, hh, r⟩
  · rw [hv] at e; simp [Value.ownBlock] at e
  · rw [hv] at e
    simp [Value.ownBlock] at e
    subst e
    unfold Blk at hX
    rw [hX] at hh
    injection hh with hh
    injection hh with _ h2 _
    exact hT h2
theorem store_kind : 70 ≠ 29 := by decide
theorem arr_kind : 71 ≠ 29 := by decide

/- the world of a call that turns a store's lists one by one -/
structure Turn (w0 : World) (F : Nat → Prop) (B b A X : Nat) (arr : Array Value) (t : TripL) (u0 u1 u2 : Value) (m0 m1 m2 : List TripL) (wr : World) : Prop where
  blk : Blk wr b 70 #[u0, u1, u2]
  r0 : Own wr B u0 m0
  r1 : Own wr B u1 m1
  r2 : Own wr B u2 m2
  a01 : u0.ownBlock = none ∨ u0.ownBlock ≠ u1.ownBlock
  a02 : u0.ownBlock = none ∨ u0.ownBlock ≠ u2.ownBlock
  a12 : u1.ownBlock = none ∨ u1.ownBlock ≠ u2.ownBlock
  arrb : Blk wr A 71 arr
  box : Blk wr X 29 (cells12 t)
  kept : Kept F w0 wr
  foot : ∀ k, Foot b u0 u1 u2 k → F k ∨ (w0.heap.size ≤ k ∧ k < wr.heap.size)
  hA : A ≠ b ∧ w0.heap.size ≤ A
  hX : w0.heap.size ≤ X
  fb : F b

theorem own_kind_ne {w : World} {X b : Nat} {t : TripL} {a : Array Value} (h : Blk w X 29 (cells12 t)) (hb : Blk w b 70 a) (e : X = b) : False := by
  subst e
  unfold Blk at *
  rw [hb] at h
  injection h with h
  injection h with _ h2 _
  exact store_kind h2
theorem v_apart_l {wr : World} {B : Nat} {u v o : Value} {l : List TripL} (ho : Own wr B o l) (h : u.ownBlock = none ∨ u.ownBlock ≠ o.ownBlock) (hat : v.ownBlock = u.ownBlock ∨ ∃ g, v.ownBlock = some g ∧ wr.heap.size ≤ g) : v.ownBlock = none ∨ v.ownBlock ≠ o.ownBlock := by
  rcases hat with e | ⟨g, e, hg⟩
  · rw [e]; exact h
  · refine .inr fun c => ?_
    rw [e] at c
    have := (ho.lt g c.symm).2
    omega
theorem v_apart_r {wr : World} {B : Nat} {u v o : Value} {l : List TripL} (ho : Own wr B o l) (h : o.ownBlock = none ∨ o.ownBlock ≠ u.ownBlock) (hat : v.ownBlock = u.ownBlock ∨ ∃ g, v.ownBlock = some g ∧ wr.heap.size ≤ g) : o.ownBlock = none ∨ o.ownBlock ≠ v.ownBlock := by
  rcases h with e | h
  · exact .inl e
  · rcases hat with e | ⟨g, e, hg⟩
    · rw [e]; exact .inr h
    · refine .inr fun c => ?_
      rw [e] at c
      have := (ho.lt g c).2
      omega
theorem grown_other {w w' : World} {B : Nat} {o u : Value} {l : List TripL} (ho : Own w B o l) (hg : w.grownBy w' u.ownBlock) (h : u.ownBlock = none ∨ u.ownBlock ≠ o.ownBlock) : Own w' B o l := by
  refine ho.kept hg ?_
  rcases h with e | h
  · rw [e]
    cases hq : o.ownBlock with
    | none => exact .inl rfl
    | some g => exact .inr (fun c => by cases c)
  · exact .inr fun c => h c.symm
/- list 0 opened, or shortened; not yet stored -/
theorem turn_mid0 {w0 wr w2 : World} {F : Nat → Prop} {B b A X : Nat} {arr : Array Value} {t : TripL} {u0 u1 u2 : Value} {m0 m1 m2 : List TripL} (h : Turn w0 F B b A X arr t u0 u1 u2 m0 m1 m2 wr)
    (hg : wr.grownBy w2 u0.ownBlock) (hx : ∀ g, u0.ownBlock = some g → g < w0.heap.size) : Blk w2 b 70 #[u0, u1, u2] ∧ Blk w2 A 71 arr ∧ Blk w2 X 29 (cells12 t) := by
  have e : ∀ k, k < wr.heap.size → u0.ownBlock ≠ some k → w2.heap[k]? = wr.heap[k]? := fun k hk hn => hg.block k hk (fun c => hn c.symm)
  refine ⟨?_, ?_, ?_⟩
  · show w2.heap[b]? = _; rw [e b (blk_lt h.blk) (own_ne h.r0 h.blk store_kind)]; exact h.blk
  · show w2.heap[A]? = _; rw [e A (blk_lt h.arrb) (own_ne h.r0 h.arrb arr_kind)]; exact h.arrb
  · show w2.heap[X]? = _; rw [e X (blk_lt h.box) (fun c => by have := hx X c; have := h.hX; omega)]; exact h.box
theorem turn_step0 {w0 wr w2 : World} {F : Nat → Prop} {B b A X : Nat} {arr : Array Value} {t : TripL} {u0 u1 u2 v : Value} {m0 m1 m2 m : List TripL} (h : Turn w0 F B b A X arr t u0 u1 u2 m0 m1 m2 wr)
    (hown : Own w2 B v m) (hg : wr.grownBy w2 u0.ownBlock) (hat : v.ownBlock = u0.ownBlock ∨ ∃ g, v.ownBlock = some g ∧ wr.heap.size ≤ g) (hx : ∀ g, u0.ownBlock = some g → g < w0.heap.size) :
    Turn w0 F B b A X arr t v u1 u2 m m1 m2 (w2.setCell ⟨b, 0, none⟩ v) := by
  obtain ⟨hb, ha, hX⟩ := turn_mid0 h hg hx
  have ss : (w2.setCell ⟨b, 0, none⟩ v).heap.size = w2.heap.size := by simp [World.setCell]
  have other : ∀ {B : Nat} {u : Value} {l : List TripL}, Own w2 B u l → Own (w2.setCell ⟨b, 0, none⟩ v) B u l := fun {B} {u} {l} ho => own_kept (F := fun k => k = b) ho (Kept.setCell (F := fun k => k = b) w2 (p := ⟨b, 0, none⟩) rfl v) (fun g e c => own_ne ho hb store_kind (by rw [e, c]))
  refine ⟨blk_set hb _ _, other hown, other (grown_other h.r1 hg h.a01), other (grown_other h.r2 hg h.a02), v_apart_l h.r1 h.a01 hat, v_apart_l h.r2 h.a02 hat, h.a12, ?_, ?_, ?_, ?_, h.hA, h.hX, h.fb⟩
  · exact blk_other ha h.hA.1 _ _
  · exact blk_other hX (fun e => own_kind_ne hX hb e) _ _
  · exact (h.kept.then (Kept.of_grown (F := fun g => u0.ownBlock = some g) hg (fun g e => e)) (fun i hi c => by rcases h.foot i ((.inr (.inl c))) with hF | hF; exact hF; omega)).then (Kept.setCell w2 (F := fun k => k = b) rfl v) (fun i _ c => by rw [c]; exact h.fb)
  · intro k hk
    rw [ss]
    have hold : ∀ k, Foot b u0 u1 u2 k → F k ∨ (w0.heap.size ≤ k ∧ k < w2.heap.size) := fun k c => by
      rcases h.foot k c with hF | hF
      · exact .inl hF
      · exact .inr ⟨hF.1, Nat.lt_of_lt_of_le hF.2 hg.size⟩
    have hnew : ∀ k, v.ownBlock = some k → F k ∨ (w0.heap.size ≤ k ∧ k < w2.heap.size) := fun k c => by
      rcases hat with e | ⟨g, e, hge⟩
      · rw [e] at c; exact hold k (.inr (.inl c))
      · exact .inr ⟨by rw [e] at c; injection c with c; have := h.kept.size; omega, (hown.lt k c).2⟩
    rcases hk with e | e | e | e
    · exact hold k (.inl e)
    · exact hnew k e
    · exact hold k (.inr (.inr (.inl e)))
    · exact hold k (.inr (.inr (.inr e)))
/- list 1 opened, or shortened; not yet stored -/
theorem turn_mid1 {w0 wr w2 : World} {F : Nat → Prop} {B b A X : Nat} {arr : Array Value} {t : TripL} {u0 u1 u2 : Value} {m0 m1 m2 : List TripL} (h : Turn w0 F B b A X arr t u0 u1 u2 m0 m1 m2 wr)
    (hg : wr.grownBy w2 u1.ownBlock) (hx : ∀ g, u1.ownBlock = some g → g < w0.heap.size) : Blk w2 b 70 #[u0, u1, u2] ∧ Blk w2 A 71 arr ∧ Blk w2 X 29 (cells12 t) := by
  have e : ∀ k, k < wr.heap.size → u1.ownBlock ≠ some k → w2.heap[k]? = wr.heap[k]? := fun k hk hn => hg.block k hk (fun c => hn c.symm)
  refine ⟨?_, ?_, ?_⟩
  · show w2.heap[b]? = _; rw [e b (blk_lt h.blk) (own_ne h.r1 h.blk store_kind)]; exact h.blk
  · show w2.heap[A]? = _; rw [e A (blk_lt h.arrb) (own_ne h.r1 h.arrb arr_kind)]; exact h.arrb
  · show w2.heap[X]? = _; rw [e X (blk_lt h.box) (fun c => by have := hx X c; have := h.hX; omega)]; exact h.box
theorem turn_step1 {w0 wr w2 : World} {F : Nat → Prop} {B b A X : Nat} {arr : Array Value} {t : TripL} {u0 u1 u2 v : Value} {m0 m1 m2 m : List TripL} (h : Turn w0 F B b A X arr t u0 u1 u2 m0 m1 m2 wr)
    (hown : Own w2 B v m) (hg : wr.grownBy w2 u1.ownBlock) (hat : v.ownBlock = u1.ownBlock ∨ ∃ g, v.ownBlock = some g ∧ wr.heap.size ≤ g) (hx : ∀ g, u1.ownBlock = some g → g < w0.heap.size) :
    Turn w0 F B b A X arr t u0 v u2 m0 m m2 (w2.setCell ⟨b, 1, none⟩ v) := by
  obtain ⟨hb, ha, hX⟩ := turn_mid1 h hg hx
  have ss : (w2.setCell ⟨b, 1, none⟩ v).heap.size = w2.heap.size := by simp [World.setCell]
  have other : ∀ {B : Nat} {u : Value} {l : List TripL}, Own w2 B u l → Own (w2.setCell ⟨b, 1, none⟩ v) B u l := fun {B} {u} {l} ho => own_kept (F := fun k => k = b) ho (Kept.setCell (F := fun k => k = b) w2 (p := ⟨b, 1, none⟩) rfl v) (fun g e c => own_ne ho hb store_kind (by rw [e, c]))
  refine ⟨blk_set hb _ _, other (h.r0.kept hg h.a01), other hown, other (grown_other h.r2 hg h.a12), v_apart_r h.r0 h.a01 hat, h.a02, v_apart_l h.r2 h.a12 hat, ?_, ?_, ?_, ?_, h.hA, h.hX, h.fb⟩
  · exact blk_other ha h.hA.1 _ _
  · exact blk_other hX (fun e => own_kind_ne hX hb e) _ _
  · exact (h.kept.then (Kept.of_grown (F := fun g => u1.ownBlock = some g) hg (fun g e => e)) (fun i hi c => by rcases h.foot i ((.inr (.inr (.inl c)))) with hF | hF; exact hF; omega)).then (Kept.setCell w2 (F := fun k => k = b) rfl v) (fun i _ c => by rw [c]; exact h.fb)
  · intro k hk
    rw [ss]
    have hold : ∀ k, Foot b u0 u1 u2 k → F k ∨ (w0.heap.size ≤ k ∧ k < w2.heap.size) := fun k c => by
      rcases h.foot k c with hF | hF
      · exact .inl hF
      · exact .inr ⟨hF.1, Nat.lt_of_lt_of_le hF.2 hg.size⟩
    have hnew : ∀ k, v.ownBlock = some k → F k ∨ (w0.heap.size ≤ k ∧ k < w2.heap.size) := fun k c => by
      rcases hat with e | ⟨g, e, hge⟩
      · rw [e] at c; exact hold k (.inr (.inr (.inl c)))
      · exact .inr ⟨by rw [e] at c; injection c with c; have := h.kept.size; omega, (hown.lt k c).2⟩
    rcases hk with e | e | e | e
    · exact hold k (.inl e)
    · exact hold k (.inr (.inl e))
    · exact hnew k e
    · exact hold k (.inr (.inr (.inr e)))
/- list 2 opened, or shortened; not yet stored -/
theorem turn_mid2 {w0 wr w2 : World} {F : Nat → Prop} {B b A X : Nat} {arr : Array Value} {t : TripL} {u0 u1 u2 : Value} {m0 m1 m2 : List TripL} (h : Turn w0 F B b A X arr t u0 u1 u2 m0 m1 m2 wr)
    (hg : wr.grownBy w2 u2.ownBlock) (hx : ∀ g, u2.ownBlock = some g → g < w0.heap.size) : Blk w2 b 70 #[u0, u1, u2] ∧ Blk w2 A 71 arr ∧ Blk w2 X 29 (cells12 t) := by
  have e : ∀ k, k < wr.heap.size → u2.ownBlock ≠ some k → w2.heap[k]? = wr.heap[k]? := fun k hk hn => hg.block k hk (fun c => hn c.symm)
  refine ⟨?_, ?_, ?_⟩
  · show w2.heap[b]? = _; rw [e b (blk_lt h.blk) (own_ne h.r2 h.blk store_kind)]; exact h.blk
  · show w2.heap[A]? = _; rw [e A (blk_lt h.arrb) (own_ne h.r2 h.arrb arr_kind)]; exact h.arrb
  · show w2.heap[X]? = _; rw [e X (blk_lt h.box) (fun c => by have := hx X c; have := h.hX; omega)]; exact h.box
theorem turn_step2 {w0 wr w2 : World} {F : Nat → Prop} {B b A X : Nat} {arr : Array Value} {t : TripL} {u0 u1 u2 v : Value} {m0 m1 m2 m : List TripL} (h : Turn w0 F B b A X arr t u0 u1 u2 m0 m1 m2 wr)
    (hown : Own w2 B v m) (hg : wr.grownBy w2 u2.ownBlock) (hat : v.ownBlock = u2.ownBlock ∨ ∃ g, v.ownBlock = some g ∧ wr.heap.size ≤ g) (hx : ∀ g, u2.ownBlock = some g → g < w0.heap.size) :
    Turn w0 F B b A X arr t u0 u1 v m0 m1 m (w2.setCell ⟨b, 2, none⟩ v) := by
  obtain ⟨hb, ha, hX⟩ := turn_mid2 h hg hx
  have ss : (w2.setCell ⟨b, 2, none⟩ v).heap.size = w2.heap.size := by simp [World.setCell]
  have other : ∀ {B : Nat} {u : Value} {l : List TripL}, Own w2 B u l → Own (w2.setCell ⟨b, 2, none⟩ v) B u l := fun {B} {u} {l} ho => own_kept (F := fun k => k = b) ho (Kept.setCell (F := fun k => k = b) w2 (p := ⟨b, 2, none⟩) rfl v) (fun g e c => own_ne ho hb store_kind (by rw [e, c]))
  refine ⟨blk_set hb _ _, other (h.r0.kept hg h.a02), other (h.r1.kept hg h.a12), other hown, h.a01, v_apart_r h.r0 h.a02 hat, v_apart_r h.r1 h.a12 hat, ?_, ?_, ?_, ?_, h.hA, h.hX, h.fb⟩
  · exact blk_other ha h.hA.1 _ _
  · exact blk_other hX (fun e => own_kind_ne hX hb e) _ _
  · exact (h.kept.then (Kept.of_grown (F := fun g => u2.ownBlock = some g) hg (fun g e => e)) (fun i hi c => by rcases h.foot i ((.inr (.inr (.inr c)))) with hF | hF; exact hF; omega)).then (Kept.setCell w2 (F := fun k => k = b) rfl v) (fun i _ c => by rw [c]; exact h.fb)
  · intro k hk
    rw [ss]
    have hold : ∀ k, Foot b u0 u1 u2 k → F k ∨ (w0.heap.size ≤ k ∧ k < w2.heap.size) := fun k c => by
      rcases h.foot k c with hF | hF
      · exact .inl hF
      · exact .inr ⟨hF.1, Nat.lt_of_lt_of_le hF.2 hg.size⟩
    have hnew : ∀ k, v.ownBlock = some k → F k ∨ (w0.heap.size ≤ k ∧ k < w2.heap.size) := fun k c => by
      rcases hat with e | ⟨g, e, hge⟩
      · rw [e] at c; exact hold k (.inr (.inr (.inr c)))
      · exact .inr ⟨by rw [e] at c; injection c with c; have := h.kept.size; omega, (hown.lt k c).2⟩
    rcases hk with e | e | e | e
    · exact hold k (.inl e)
    · exact hold k (.inr (.inl e))
    · exact hold k (.inr (.inr (.inl e)))
    · exact hnew k e

end Go.Proofs.YtnojdchodmogbaaGreat

namespace Go.Proofs.YtnojdchodmogbaaGreat
open Go.RowKit

theorem sto_new (w : World) (B : Nat) (hB : B ≤ w.heap.size) : Sto (w.alloc (.cells #[.slice none 0 0, .slice none 0 0, .slice none 0 0] 70)) B w.heap.size (.slice none 0 0) (.slice none 0 0) (.slice none 0 0) [] [] [] :=
  { blk := blk_new _ _ _, low := hB, r0 := World.ownsRow_nil _ _ _ _, r1 := World.ownsRow_nil _ _ _ _, r2 := World.ownsRow_nil _ _ _ _, o0 := List.Pairwise.nil, o1 := List.Pairwise.nil, o2 := List.Pairwise.nil, m1 := fun _ => Iff.rfl, m2 := fun _ => Iff.rfl, n1 := rfl, n2 := rfl,
    a01 := .inl rfl, a02 := .inl rfl, a12 := .inl rfl, fine := fun _ ht => absurd ht List.not_mem_nil, most := Nat.zero_le _ }

set_option maxHeartbeats 400000 in
theorem new_calls (w : World) : Calls Tryz.prog 9 #[] w fun e w' => e = .returned (.pointer (some ⟨w.heap.size, 0, none⟩)) ∧ w' = w.alloc (.cells #[.slice none 0 0, .slice none 0 0, .slice none 0 0] 70) := by
  go_enter Tryz.func9, Tryz.ntmps9
  go_wp2
  go_ret
  exact ⟨rfl, rfl⟩

/- the cells of a store's block -/
theorem sto_cells {w : World} {B b : Nat} {v0 v1 v2 : Value} {L l1 l2 : List TripL} (h : Sto w B b v0 v1 v2 L l1 l2) : w.cell? ⟨b, 0, none⟩ = some v0 ∧ w.cell? ⟨b, 1, none⟩ = some v1 ∧ w.cell? ⟨b, 2, none⟩ = some v2 := by
  rw [blk_cell h.blk, blk_cell h.blk, blk_cell h.blk]; exact ⟨rfl, rfl, rfl⟩

set_option maxHeartbeats 1000000 in
theorem len_calls (B b : Nat) (v0 v1 v2 : Value) (L l1 l2 : List TripL) (w : World) (h : Sto w B b v0 v1 v2 L l1 l2) :
    Calls Tryz.prog 16 #[.pointer (some ⟨b, 0, none⟩)] w fun e w' => e = .returned (.int .i64 L.length) ∧ w' = w := by
  obtain ⟨q0, _, _⟩ := sto_cells h
  rcases own_cases h.r0 with ⟨hv, hL⟩ | ⟨g, cap, hv, _⟩
  · rw [hv] at q0
    rw [hL]
    clear h
    go_enter Tryz.func16, Tryz.ntmps16
    go_wp2
    go_ret
    exact ⟨rfl, rfl⟩
  · rw [hv] at q0
    clear h
    generalize L.length = N at q0 ⊢
    go_enter Tryz.func16, Tryz.ntmps16
    go_wp2
    go_ret
    exact ⟨rfl, rfl⟩

set_option maxRecDepth 100000 in
set_option maxHeartbeats 2000000 in
theorem has_store_calls (B b : Nat) (v0 v1 v2 : Value) (L l1 l2 : List TripL) (t : TripL) (w : World) (h : Sto w B b v0 v1 v2 L l1 l2) :
    Calls Tryz.prog 17 #[.pointer (some ⟨b, 0, none⟩), t.v] w fun e w' => e = .returned (.bool (decide (t ∈ L))) ∧ Below w.heap.size w w' := by
  have H := Lib.hid h
  have hb := blk_lt h.blk
  clear h
  simp only [TripL.v]
  go_enter Tryz.func17, Tryz.ntmps17
  go_wp2_with fail
  refine (find_calls B b v0 v1 v2 L l1 l2 t _ (sto_on H.out (box_below _ _) (Nat.le_refl _))).mono ?_
  rintro e w2 ⟨k0, k1, k2, rfl, _, _, _, hb2⟩
  replace hb2 := one_box hb2
  obtain ⟨D, hD⟩ : ∃ D, decide (t ∈ L) = D := ⟨_, rfl⟩
  rw [hD]
  have HD := Lib.hid hD
  clear hD
  go_wp2
  go_ret
  exact ⟨by rw [HD.out]; rfl, by first | exact hb2.alloc hb2.size _ | exact (((hb2.alloc hb2.size _).setCell hb2.size _).setCell hb2.size _).setCell hb2.size _⟩

theorem clone_calls (B : Nat) (v : Value) (L : List TripL) (w : World) (h : Own w B v L) (hl : L.length ≤ 4096) :
    Calls Tryz.prog 38 #[v] w fun e w' => ∃ v', e = .returned v' ∧ Own w' w.heap.size v' L ∧ Below w.heap.size w w' := by
  obtain ⟨i0, hi, hz0, hz1, hz2⟩ := info_parts info_triple
  rcases h.2 with ⟨hv, h0⟩ | ⟨g, cap, cur, hv, hg, hh, hn, hm, _⟩
  · have e : L = [] := List.eq_nil_of_length_eq_zero h0
    subst e; subst hv
    have := AnyE.slices_Clone_nil (P := Tryz.prog) Tryz.laysClone 0 0 w
    exact this.mono fun e w' ⟨he, hw⟩ => ⟨_, he, World.ownsRow_nil _ _ _ _, by rw [hw]; exact Below.refl _ _⟩
  · have hc : ∀ j u, (tripCells L)[j]? = some u → w.cell? ⟨g, 0 + j, none⟩ = some u := fun j u hj => by
      have := h.cells (g := g) (by rw [hv]; rfl) j u hj
      rw [Nat.zero_add]
      cases j with
      | zero => simpa [Addr.add] using this
      | succ j => simpa [Addr.add] using this
    subst hv
    have := AnyE.slices_Clone (P := Tryz.prog) Tryz.laysClone i0 noTrip.v 12 168 hi hz0 hz1 hz2 rfl (by decide) (fun w => by exact Tryz.sizeOf29 w) g 0 L.length cap (tripCells L) w h.1 (by unfold maxLen; omega) (by omega) hc (cells_one L)
    exact this.mono fun e w' ⟨v', he, ho, _, hb⟩ => ⟨v', he, ho, hb⟩

set_option maxHeartbeats 1000000 in
theorem all_calls (B b : Nat) (v0 v1 v2 : Value) (L l1 l2 : List TripL) (w : World) (h : Sto w B b v0 v1 v2 L l1 l2) :
    Calls Tryz.prog 15 #[.pointer (some ⟨b, 0, none⟩)] w fun e w' => ∃ v', e = .returned v' ∧ Own w' w.heap.size v' L ∧ Below w.heap.size w w' := by
  obtain ⟨q0, _, _⟩ := sto_cells h
  have HO := Lib.hid h.r0
  have HM := Lib.hid h.most
  clear h
  go_enter Tryz.func15, Tryz.ntmps15
  go_wp2_with fail
  refine (clone_calls B v0 L _ HO.out HM.out).mono ?_
  rintro e w2 ⟨v', rfl, ho, hb⟩
  have HO2 := Lib.hid ho
  clear ho
  go_wp2
  go_ret
  exact ⟨_, rfl, HO2.out, hb⟩

end Go.Proofs.YtnojdchodmogbaaGreat
