/- Texts gathered in a row that is made for them: laws on making it, on a store into it; what it holds on the way. -/
import Derived.Test.YtnfmjkinahbilaaDoorPctStore
import Derived.Laws.OwnMore
import Derived.Laws.CopyRow
import Derived.Lib.Join
namespace Go.Proofs.YtnfmjkinahbilaaDoor
open Go.RowKit

theorem run_storeVar_one {P : Program} (w : World) (g off : Nat) (t ty : TypeId) (old : Array Value) (v : Value) (hg : w.heap[g]? = some (.cells old t (0, 0))) (hi : (P.info? ty).map (·.size) = some 1) (hv : v.cells = #[v])
    (ho : off < old.size) (h1 : v.oneCell' = true) :
    (storeVar ty ⟨g, off, none⟩ v).run P w = .ok () (w.setRow g (old.toList.take off ++ [v] ++ old.toList.drop (off + 1)).toArray) := by
  have := run_storeCells_at P g off t [v] 0 old w hg (by simp; omega) (fun u hu => by simp at hu; rw [hu]; exact h1)
  rw [Nat.add_zero] at this
  cases hq : P.info? ty with
  | none => simp [hq] at hi
  | some i =>
    have hs : i.size = 1 := by simp [hq] at hi; omega
    simp [storeVar, sizeOf, typeInfo, hq, hv, hs]
    simpa using this
theorem wp_one_abs {o : Oper} {a : Act} {w : World} {K : Act → World → Prop} {Q : Exit → Act → World → Prop} (ty : TypeId) (x y : Operand) (ho : o.op = .store ty x y)
    (g off : Nat) (v : Value) (hx : a.eval x = .pointer (some ⟨g, off, none⟩)) (hy : a.eval y = v) (hv : v.cells = #[v]) (h1 : v.oneCell' = true)
    (t : TypeId) (xs : List Value) (hR : Blk w g t xs.toArray) (hi : (Tryd.prog.info? ty).map (·.size) = some 1)
    (hold : off < xs.length)
    (h : ∀ w', Blk w' g t (xs.set off v).toArray → w.grownBy w' (some g) → K (a.put o.dst undef) w') : Oper.wp Tryd.prog o a w K Q := by
  have hrun := run_storeVar_one (P := Tryd.prog) w g off t ty xs.toArray v hR hi hv (by simpa using hold) h1
  have e : xs.take off ++ [v] ++ xs.drop (off + 1) = xs.set off v := by rw [List.set_eq_take_append_cons_drop, if_pos hold]; simp
  rw [List.toList_toArray, e] at hrun
  unfold Oper.wp execOp
  simp only [ho, hx, hy, Instr.storeAt, Instr.sureAddr, Sem.run_bind, Sem.run_pure, Result.andThen_ok, hrun]
  exact h _ (blk_row hR _) (grown_set _ _ _)
/- a row that is made -/
theorem blk_made {w : World} {B g n size : Nat} {e : TypeId} {xs : List Value} (h : w.ownsRow B e size (.slice (some ⟨g, 0, none⟩) n n) n xs) : Blk w g e xs.toArray := by
  rcases h.2 with ⟨e0, _⟩ | ⟨g', cap, cur, e0, hb, hg, hn, hm, hs, ht⟩
  · cases e0
  · injection e0 with e1 _ e3
    injection e1 with e1
    injection e1 with e1
    subst e1; subst e3
    rw [List.take_of_length_le (by rw [Array.length_toList, hs]; exact Nat.le_refl _)] at ht
    unfold Blk
    rw [← ht]
    simpa using hg
theorem wp_make_abs {o : Oper} {a : Act} {w : World} {K : Act → World → Prop} {Q : Exit → Act → World → Prop} (l c : Operand) (t : TypeId) (hop : o.op = Op.makeSlice t l c)
    (e : TypeId) (i : TypeInfo) (z : Value) (size : Nat) (h1 : Tryd.prog.underlying t = some (.slice e)) (h2 : Tryd.prog.info? e = some i) (h3 : i.zero = some z) (h4 : i.size = size)
    (kl kc : IntKind) (n : Nat) (hl : a.eval l = .int kl n) (hc : a.eval c = .int kc n) (b2 : i.bytes * n ≤ 281474976710656) (b3 : n ≤ maxLen) (G : Nat) (hG : w.heap.size = G)
    (hK : ∀ w', Blk w' G e (madeCells z.cells (n * size)) → Below w.heap.size w w' → K (a.put o.dst (.slice (some ⟨G, 0, none⟩) n n)) w') : Oper.wp Tryd.prog o a w K Q := by
  obtain ⟨w', hrun, r1, r2⟩ := run_make_full (P := Tryd.prog) w w.heap.size t e i z size h1 h2 h3 h4 kl kc n b2 b3 (Nat.le_refl _)
  subst hG
  unfold Oper.wp
  simp [execOp, hop, hl, hc, hrun, Result.andThen]
  refine hK _ ?_ ?_
  · have := blk_made r1
    simpa using this
  · exact (Below.refl w.heap.size w).grown r2 (Nat.le_refl _) (fun k hk => by cases hk)
theorem make_abs {ops : Array Oper} {rest : List Oper} {o : Oper} {a : Act} {w : World} {Q : Exit → Act → World → Prop} (l c : Operand) (t : TypeId) (hop : o.op = Op.makeSlice t l c ∧ o.guard = none)
    (e : TypeId) (i : TypeInfo) (z : Value) (size : Nat) (h1 : Tryd.prog.underlying t = some (.slice e)) (h2 : Tryd.prog.info? e = some i) (h3 : i.zero = some z) (h4 : i.size = size)
    (kl kc : IntKind) (n : Nat) (hl : a.eval l = .int kl n) (hc : a.eval c = .int kc n) (b2 : i.bytes * n ≤ 281474976710656) (b3 : n ≤ maxLen) (G : Nat) (hG : w.heap.size = G)
    (h : ∀ w', Hid (Blk w' G e (madeCells z.cells (n * size))) → Hid (Below w.heap.size w w') → wpList Tryd.prog ops Q rest (a.put o.dst (.slice (some ⟨G, 0, none⟩) n n)) w') : wpList Tryd.prog ops Q (o :: rest) a w :=
  wpList_plain hop.2 fun _ hK => wp_make_abs l c t hop.1 e i z size h1 h2 h3 h4 kl kc n hl hc b2 b3 G hG fun w' k1 k2 => hK _ _ (h w' k1 k2)
theorem rep_at (l : List Value) : ∀ (n q r : Nat), q < n → r < l.length → ((List.replicate n l).flatten)[q * l.length + r]? = l[r]?
  | 0, q, r, hq, _ => absurd hq (Nat.not_lt_zero _)
  | n + 1, q, r, hq, hr => by
    rw [List.replicate_succ, List.flatten_cons]
    cases q with
    | zero => rw [Nat.zero_mul, Nat.zero_add, List.getElem?_append_left hr]
    | succ q =>
      rw [List.getElem?_append_right (by rw [Nat.succ_mul]; omega), show (q + 1) * l.length + r - l.length = q * l.length + r by rw [Nat.succ_mul]; omega]
      exact rep_at l n q r (by omega) hr
theorem made_list (z : Value) (n : Nat) (l : List Value) (hl : z.cells.toList = l) (h0 : 0 < l.length) : madeCells z.cells (n * l.length) = ((List.replicate n l).flatten).toArray := by
  have hs : z.cells.size = l.length := by rw [← Array.length_toList, hl]
  have hlen : ((List.replicate n l).flatten).length = n * l.length := by simp
  unfold madeCells
  apply Array.ext_getElem?
  intro i
  rw [Array.getElem?_map, show ((List.replicate n l).flatten).toArray[i]? = ((List.replicate n l).flatten)[i]? from by simp]
  by_cases hi : i < n * l.length
  · have hm : i % l.length < l.length := Nat.mod_lt _ h0
    have e := rep_at l n (i / l.length) (i % l.length) (by rw [Nat.div_lt_iff_lt_mul h0]; exact hi) hm
    rw [Nat.mul_comm, Nat.div_add_mod] at e
    rw [e, Array.getElem?_eq_getElem (by simpa using hi)]
    simp only [Array.getElem_range, Option.map_some, hs]
    rw [getElem!_pos _ _ (by rw [hs]; exact hm), ← Array.getElem?_eq_getElem (by rw [hs]; exact hm), ← Array.getElem?_toList, hl]
  · rw [Array.getElem?_eq_none (by simpa using hi), List.getElem?_eq_none (by omega)]
    rfl


theorem info_text : (Tryd.prog.info? 9).map (fun i => (i.zero, i.size, i.bytes)) = some (some (.string ⟨#[]⟩), 1, 16) := by kernel_rfl
theorem grown_below {a b c : World} {row : Option Nat} (h : a.grownBy b row) (k : Below a.heap.size b c) : a.grownBy c row := by
  refine ⟨k.os.trans h.os, k.tape.trans h.tape, k.output.trans h.output, Nat.le_trans h.size k.size, fun i hi hne => ?_⟩
  rw [k.block i hi]
  exact h.block i hi hne
/- the texts so far, and noughts -/
def partsV (L : List PairL) (k : Nat) : List Value := (L.take k).map (fun p => Value.string (bs (wr1 p))) ++ List.replicate (L.length - k) (.string ⟨#[]⟩)
theorem parts_length (L : List PairL) (k : Nat) (h : k ≤ L.length) : (partsV L k).length = L.length := by
  unfold partsV; rw [List.length_append, List.length_map, List.length_take, List.length_replicate]; omega
theorem parts_next (L : List PairL) (k : Nat) (h : k < L.length) : (partsV L k).set k (.string (bs (wr1 L[k]))) = partsV L (k + 1) := by
  unfold partsV
  have e : ((L.take k).map (fun p => Value.string (bs (wr1 p)))).length = k := by rw [List.length_map, List.length_take]; omega
  rw [List.set_append, if_neg (by omega), e, Nat.sub_self, show L.length - k = (L.length - (k + 1)) + 1 by omega, List.replicate_succ, List.set_cons_zero, List.take_succ_eq_append_getElem h, List.map_append, List.append_assoc]
  rfl
theorem parts_none (L : List PairL) : partsV L 0 = List.replicate L.length (.string ⟨#[]⟩) := by unfold partsV; simp
theorem parts_all (L : List PairL) (k : Nat) (h : L.length ≤ k) : partsV L k = L.map (fun p => Value.string (bs (wr1 p))) := by
  unfold partsV; rw [List.take_of_length_le h, show L.length - k = 0 by omega]; simp
theorem made_texts (n : Nat) : madeCells (Value.string ⟨#[]⟩).cells (n * 1) = (List.replicate n (Value.string ⟨#[]⟩)).toArray := by
  have := made_list (.string ⟨#[]⟩) n [.string ⟨#[]⟩] rfl (by decide)
  rw [show [Value.string ⟨#[]⟩].length = 1 from rfl] at this
  rw [this]
  congr 1
  induction n with
  | zero => rfl
  | succ n ih => rw [List.replicate_succ, List.flatten_cons, List.replicate_succ]; simp
/- the texts, joined -/
theorem join_more : ∀ (r : List PairL) (p : PairL), [38].intercalate (wr1 p :: r.map wr1) = wr1 p ++ r.flatMap fun q => 38 :: wr1 q
  | [], p => by simp [List.intercalate]
  | q :: r, p => by
    rw [List.map_cons, List.flatMap_cons, List.cons_append, ← join_more r q]
    simp [List.intercalate]
theorem join_wr (L : List PairL) : Lib.join (L.map wr1) [38] = wrS L := by
  cases L with
  | nil => rfl
  | cons p r => exact join_more r p
theorem wrS_len (M : Nat) : ∀ L : List PairL, (∀ p ∈ L, p.k.length ≤ M ∧ p.v.length ≤ M) → (wrS L).length ≤ L.length * (6 * M + 2) := by
  have one : ∀ p : PairL, p.k.length ≤ M ∧ p.v.length ≤ M → (wr1 p).length ≤ 6 * M + 1 := fun p h => by
    have h1 := encS_len p.k; have h2 := encS_len p.v
    unfold wr1; rw [List.length_append, List.length_cons]; omega
  intro L h
  cases L with
  | nil => exact Nat.zero_le _
  | cons p r =>
    unfold wrS
    rw [List.length_append]
    have hp := one p (h p (by simp))
    have hr : ∀ r : List PairL, (∀ q ∈ r, q.k.length ≤ M ∧ q.v.length ≤ M) → (r.flatMap fun q => 38 :: wr1 q).length ≤ r.length * (6 * M + 2) := by
      intro r
      induction r with
      | nil => intro _; exact Nat.zero_le _
      | cons q r ih =>
        intro h
        rw [List.flatMap_cons, List.length_append, List.length_cons, List.length_cons, Nat.succ_mul]
        have h1 := one q (h q (by simp))
        have h2 := ih fun x hx => h x (by simp [hx])
        omega
    have h2 := hr r fun q hq => h q (by simp [hq])
    rw [List.length_cons, Nat.succ_mul]; omega

end Go.Proofs.YtnfmjkinahbilaaDoor
