/- The steps of a region that draws its order, and other words, said shortly (no program). -/
import Derived.WalkKit
import Derived.Lib.Hide
import Derived.Deep.RegionHeld3
import Derived.KernelRfl
namespace Go.Proofs.YtjpfoophipcglaaGreatDoor
open Go.RowKit

theorem Hd {p : Prop} (h : p) : Hid p := Lib.hid h
section
variable {P : Program} {md : Region.Mode} {ops : Array Oper} {Q : Exit → Act → World → Prop} {S : World → Prop} {fuel : Nat} {listed : Array Bool} {w : World}
theorem tkA (i d : Nat) {op : Op} {ty : TypeId} {ps : String} {af : Array Edge} {gd : Option (Nat × Bool)} {v : Value} {T T' : List Value} {df : _}
    (h : wpAnyH P md ops Q S fuel (listed.setIfInBounds i true) ⟨T'.toArray, df⟩ w)
    (hi : ops[i]? = some ⟨some d, op, ty, ps, af, gd⟩ := by rfl) (hs : Region.noSelect ops = true := by kernel_rfl) (hf : Region.free md ops listed i = true := by kernel_rfl) (hr : (Region.ready md ops listed).contains i = true := by kernel_rfl)
    (hw : Region.wanted ⟨some d, op, ty, ps, af, gd⟩ (yielded ops T.toArray) = true := by kernel_rfl)
    (hy : ∀ ww, S ww → (execOp (Act.eval ⟨T.toArray, df⟩) ⟨some d, op, ty, ps, af, gd⟩).run P ww = .ok (.value v) ww := by (intro ww hSw; (try dsimp only at hSw); go_simp); (try with_reducible rfl))
    (ht : T.set d v = T' := by (try simp only [List.set_cons_zero, List.set_cons_succ]); (try rfl))
    (hQ : ∀ c a w, Q (.panic c) (Act.put a (some d) v) w → Q (.panic c) a w := by exact fun _ _ _ h => h)
    (hS : S w := by assumption) : wpAnyH P md ops Q S (fuel + 1) listed ⟨T.toArray, df⟩ w := by
  subst ht
  refine wpAnyH_take hi hs hf hr (fun c a w => hQ c a w) (Or.inl ⟨hw, hy⟩) hS ?_
  simpa [Act.put] using h
theorem tkB (i d : Nat) {op : Op} {ty : TypeId} {ps : String} {af : Array Edge} {gd : Option (Nat × Bool)} {v : Value} {T T' : List Value} {df : _}
    (hy : ∀ ww, S ww → (execOp (Act.eval ⟨T.toArray, df⟩) ⟨some d, op, ty, ps, af, gd⟩).run P ww = .ok (.value v) ww)
    (h : wpAnyH P md ops Q S fuel (listed.setIfInBounds i true) ⟨T'.toArray, df⟩ w)
    (hi : ops[i]? = some ⟨some d, op, ty, ps, af, gd⟩ := by rfl) (hs : Region.noSelect ops = true := by kernel_rfl) (hf : Region.free md ops listed i = true := by kernel_rfl) (hr : (Region.ready md ops listed).contains i = true := by kernel_rfl)
    (hw : Region.wanted ⟨some d, op, ty, ps, af, gd⟩ (yielded ops T.toArray) = true := by kernel_rfl)
    (ht : T.set d v = T' := by (try simp only [List.set_cons_zero, List.set_cons_succ]); (try rfl))
    (hQ : ∀ c a w, Q (.panic c) (Act.put a (some d) v) w → Q (.panic c) a w := by exact fun _ _ _ h => h)
    (hS : S w := by assumption) : wpAnyH P md ops Q S (fuel + 1) listed ⟨T.toArray, df⟩ w := by
  subst ht
  refine wpAnyH_take hi hs hf hr (fun c a w => hQ c a w) (Or.inl ⟨hw, hy⟩) hS ?_
  simpa [Act.put] using h
theorem skA (i d : Nat) {op : Op} {ty : TypeId} {ps : String} {af : Array Edge} {gd : Option (Nat × Bool)} {T T' : List Value} {df : _}
    (h : wpAnyH P md ops Q S fuel (listed.setIfInBounds i true) ⟨T'.toArray, df⟩ w)
    (hi : ops[i]? = some ⟨some d, op, ty, ps, af, gd⟩ := by rfl) (hs : Region.noSelect ops = true := by kernel_rfl) (hf : Region.free md ops listed i = true := by kernel_rfl) (hr : (Region.ready md ops listed).contains i = true := by kernel_rfl)
    (hw : Region.wanted ⟨some d, op, ty, ps, af, gd⟩ (yielded ops T.toArray) = false := by kernel_rfl)
    (ht : T.set d undef = T' := by (try simp only [List.set_cons_zero, List.set_cons_succ]); (try rfl))
    (hQ : ∀ c a w, Q (.panic c) (Act.put a (some d) undef) w → Q (.panic c) a w := by exact fun _ _ _ h => h)
    (hS : S w := by assumption) : wpAnyH P md ops Q S (fuel + 1) listed ⟨T.toArray, df⟩ w := by
  subst ht
  refine wpAnyH_take hi hs hf hr (fun c a w => hQ c a w) (Or.inr ⟨hw, rfl⟩) hS ?_
  simpa [Act.put] using h
theorem tkC (i : Nat) {d : Nat} {op : Op} {ty : TypeId} {ps : String} {af : Array Edge} {gd : Option (Nat × Bool)} {v : Value} {T T' : List Value} {df : _}
    (h : wpAnyH P md ops Q S fuel (listed.setIfInBounds i true) ⟨T'.toArray, df⟩ w)
    (hi : ops[i]? = some ⟨some d, op, ty, ps, af, gd⟩ := by rfl) (hs : Region.noSelect ops = true := by kernel_rfl) (hf : Region.free md ops listed i = true := by kernel_rfl) (hr : (Region.ready md ops listed).contains i = true := by kernel_rfl)
    (hw : Region.wanted ⟨some d, op, ty, ps, af, gd⟩ (yielded ops T.toArray) = true := by kernel_rfl)
    (hy : ∀ ww, S ww → (execOp (Act.eval ⟨T.toArray, df⟩) ⟨some d, op, ty, ps, af, gd⟩).run P ww = .ok (.value v) ww := by (intro ww hSw; (try dsimp only at hSw); go_simp); (try with_reducible rfl))
    (ht : T.set d v = T' := by (try simp only [List.set_cons_zero, List.set_cons_succ]); (try rfl))
    (hQ : ∀ c a w, Q (.panic c) (Act.put a (some d) v) w → Q (.panic c) a w := by exact fun _ _ _ h => h)
    (hS : S w := by assumption) : wpAnyH P md ops Q S (fuel + 1) listed ⟨T.toArray, df⟩ w := by
  subst ht
  refine wpAnyH_take hi hs hf hr (fun c a w => hQ c a w) (Or.inl ⟨hw, hy⟩) hS ?_
  simpa [Act.put] using h
theorem skC (i : Nat) {d : Nat} {op : Op} {ty : TypeId} {ps : String} {af : Array Edge} {gd : Option (Nat × Bool)} {T T' : List Value} {df : _}
    (h : wpAnyH P md ops Q S fuel (listed.setIfInBounds i true) ⟨T'.toArray, df⟩ w)
    (hi : ops[i]? = some ⟨some d, op, ty, ps, af, gd⟩ := by rfl) (hs : Region.noSelect ops = true := by kernel_rfl) (hf : Region.free md ops listed i = true := by kernel_rfl) (hr : (Region.ready md ops listed).contains i = true := by kernel_rfl)
    (hw : Region.wanted ⟨some d, op, ty, ps, af, gd⟩ (yielded ops T.toArray) = false := by kernel_rfl)
    (ht : T.set d undef = T' := by (try simp only [List.set_cons_zero, List.set_cons_succ]); (try rfl))
    (hQ : ∀ c a w, Q (.panic c) (Act.put a (some d) undef) w → Q (.panic c) a w := by exact fun _ _ _ h => h)
    (hS : S w := by assumption) : wpAnyH P md ops Q S (fuel + 1) listed ⟨T.toArray, df⟩ w := by
  subst ht
  refine wpAnyH_take hi hs hf hr (fun c a w => hQ c a w) (Or.inr ⟨hw, rfl⟩) hS ?_
  simpa [Act.put] using h
theorem rdA (i : Nat) {o : Oper} {a : Act}
    (h : ∀ K' : Act → World → Prop, Shut (∀ a w, S w → (S w → wpAnyH P md ops Q S fuel (listed.setIfInBounds i true) a w) → K' a w) → if Region.wanted o (yielded ops a.tmps) = true then Oper.wp P o a w K' Q else K' (a.put o.dst undef) w)
    (hr : Region.ready md ops listed = [i] := by kernel_rfl) (ho : ops[i]? = some o := by rfl) : wpAnyH P md ops Q S (fuel + 1) listed a w :=
  wpAnyH_ready hr (by simp) (AllReadyH.cons ho h AllReadyH.nil)
theorem dnA {a : Act} (h : Q .normal a w) (hr : Region.ready md ops listed = [] := by kernel_rfl) : wpAnyH P md ops Q S fuel listed a w := wpAnyH_done hr h _
end
theorem sb {α : Type} (l : List α) (i : Nat) (a : α) : l.toArray.setIfInBounds i a = (l.set i a).toArray := List.setIfInBounds_toArray l i a
theorem sz {α : Type} {x y : α} {l : List α} : (x :: l).set 0 y = y :: l := List.set_cons_zero ..
theorem ss {α : Type} {x y : α} {l : List α} {i : Nat} : (x :: l).set (i + 1) y = x :: l.set i y := List.set_cons_succ ..
theorem kpB {B : Nat} {w w' : World} (hb : Below B w w') {b i : Nat} {v : Value} (hp : b < B) (h : w.cell? ⟨b, i, none⟩ = some v) : w'.cell? ⟨b, i, none⟩ = some v := (hb.cell (p := ⟨b, i, none⟩) hp).trans h
theorem bq {W : World} {X : Nat} {T : TypeId} {a : Array Value} (h : W.heap[X]? = some (.cells a T (0, 0))) (i : Nat) {v : Value} (hv : a[i]? = some v := by rfl) : W.cell? ⟨X, i, none⟩ = some v := by rw [← hv]; simp [World.cell?, h]

end Go.Proofs.YtjpfoophipcglaaGreatDoor
