/- The document's number of a literal, its order of values, for every term. -/
import Derived.Test.YtkfemnjblbnclaaGreatDoorShpValue
import Derived.Test.YtkfemnjblbnclaaGreatDoorGVCmp
import Derived.Test.YtkfemnjblbnclaaGreatDoorGRefRead
import Derived.Test.YtkfemnjblbnclaaGreatDoorNumRefReadMinus
import Derived.Test.YtkfemnjblbnclaaGreatDoorNumRefReadPlus
import Derived.Test.YtkfemnjblbnclaaGreatDoorNumRefReadBare
import Derived.Test.YtkfemnjblbnclaaGreatDoorGRefCmp
import Derived.Lib.QuietBelow
namespace Go.Proofs.YtkfemnjblbnclaaGreatDoor
open Go.RowKit Go.Sort

theorem Nm.refRead_calls (s : ByteArray) (dec : Bool) (w : World) (hs : s.size ≤ maxLen) :
    Calls Tryz.prog 66 #[.string s, .bool dec] w fun e w' => e = .returned (Nm.NumL.ret (Nm.readL s.data.toList dec)) ∧ Below w.heap.size w w' := by
  unfold Nm.readL
  rw [← Nm.ref_read]
  rcases Nm.head_cases s with ⟨hz, e1, e2⟩ | ⟨h0, ⟨g1, e1, e2⟩ | ⟨g1, e1, e2⟩ | ⟨g1, g2, e1, e2⟩⟩
  · rw [e2]; exact Nm.rReadEmpty s dec w hs _ (by rw [e1]) hz
  · rw [e2]; exact Nm.rReadMinus s dec w hs _ (by rw [e1]) h0 (beq_iff_eq.2 g1)
  · rw [e2]; exact Nm.rReadPlus s dec w hs _ (by rw [e1]) h0 (beq_eq_false_iff_ne.2 (by omega)) (beq_iff_eq.2 g1)
  · rw [e2]; exact Nm.rReadBare s dec w hs _ (by rw [e1]) h0 (beq_eq_false_iff_ne.2 g1) (beq_eq_false_iff_ne.2 g2)

theorem bs_empty (z : List UInt8) : (bs z).toList.isEmpty = decide (z = []) := by
  have h1 := eqd z []
  rw [← h1]
  cases (bs z).toList with
  | nil => rfl
  | cons a l => rfl
set_option maxRecDepth 100000 in
set_option maxHeartbeats 4000000 in
theorem rOf_calls (t : TermL) (ht : t.ok) (w : World) : Calls Tryz.prog 41 #[t.v] w fun e w' => e = .returned (Nm.NumL.ret (ofP t)) ∧ Below w.heap.size w w' := by
  have HR : Hid (∀ d W, Calls Tryz.prog 66 #[.string (bs t.x), .bool d] W fun e w' => e = .returned (Nm.NumL.ret (Nm.readL t.x d)) ∧ Below W.heap.size W w') := Lib.hid fun d W => Nm.refRead_calls (bs t.x) d W ht.1
  clear ht
  obtain ⟨k, x, y, z⟩ := t
  dsimp only at HR
  simp only [TermL.v]
  have gI := eqI y
  have gD := eqD y
  by_cases hk : k = 2
  · by_cases hz : z = []
    · have gZ : (bs z).toList.isEmpty = true := by rw [bs_empty, decide_eq_true hz]
      by_cases hI : y = tyIL
      · have HE := Lib.hid (show ofP ⟨k, x, y, z⟩ = Nm.readL x false by unfold ofP; rw [if_pos ⟨hk, hz⟩, if_pos hI])
        rw [decide_eq_true hI] at gI
        have HR1 := Lib.hid (fun W => HR.out false W)
        obtain ⟨⟨⟨v, s, d⟩, b⟩, hp⟩ : ∃ p, Nm.readL x false = p := ⟨_, rfl⟩
        rw [hp] at HE HR1
        simp only [Nm.NumL.ret, Nm.NumL.val] at HR1
        clear hp HR hI gD hz
        subst hk
        go_enter Tryz.func41, Tryz.ntmps41
        go_wp2_with fail
        refine (HR1.out _).mono ?_
        rintro e w1 ⟨rfl, hb1⟩
        obtain ⟨hc, hf⟩ := bcell hb1
        have hz := two_size hb1
        have HB1 := Lib.hid (two_gone hb1)
        clear hb1
        go_wp2
        refine bodyPost_ret (v := .tuple #[.agg #[.int .i64 v, .int .i64 s, .bool d], .bool b]) (by simp [results, Tryz.results41, hc, go_sem]) rfl ⟨by rw [HE.out]; rfl, ?_⟩
        repeat (with_reducible (first | exact HB1.out | refine Below.setCell ?_ (by simp) _))
      · rw [decide_eq_false hI] at gI
        by_cases hD : y = tyDL
        · have HE := Lib.hid (show ofP ⟨k, x, y, z⟩ = Nm.readL x true by unfold ofP; rw [if_pos ⟨hk, hz⟩, if_neg hI, if_pos hD])
          rw [decide_eq_true hD] at gD
          have HR1 := Lib.hid (fun W => HR.out true W)
          obtain ⟨⟨⟨v, s, d⟩, b⟩, hp⟩ : ∃ p, Nm.readL x true = p := ⟨_, rfl⟩
          rw [hp] at HE HR1
          simp only [Nm.NumL.ret, Nm.NumL.val] at HR1
          clear hp HR hI hD hz
          subst hk
          go_enter Tryz.func41, Tryz.ntmps41
          go_wp2_with fail
          refine (HR1.out _).mono ?_
          rintro e w1 ⟨rfl, hb1⟩
          obtain ⟨hc, hf⟩ := bcell hb1
          have hz := two_size hb1
          have HB1 := Lib.hid (two_gone hb1)
          clear hb1
          go_wp2
          refine bodyPost_ret (v := .tuple #[.agg #[.int .i64 v, .int .i64 s, .bool d], .bool b]) (by simp [results, Tryz.results41, hc, go_sem]) rfl ⟨by rw [HE.out]; rfl, ?_⟩
          repeat (with_reducible (first | exact HB1.out | refine Below.setCell ?_ (by simp) _))
        · have HE := Lib.hid (show ofP ⟨k, x, y, z⟩ = (Nm.noNum, false) by unfold ofP; rw [if_pos ⟨hk, hz⟩, if_neg hI, if_neg hD])
          rw [decide_eq_false hD] at gD
          subst hk
          clear HR hI hD hz
          go_enter Tryz.func41, Tryz.ntmps41
          go_wp2
          refine bodyPost_ret (v := .tuple #[.agg #[.int .i64 0, .int .i64 0, .bool false], .bool false]) (by simp [results, Tryz.results41, go_sem]) rfl ⟨by rw [HE.out]; rfl, ?_⟩
          repeat (with_reducible (first | exact two_alloc _ _ _ | refine Below.setCell ?_ (by simp) _))
    · have gZ : (bs z).toList.isEmpty = false := by rw [bs_empty, decide_eq_false hz]
      have HE := Lib.hid (show ofP ⟨k, x, y, z⟩ = (Nm.noNum, false) by unfold ofP; rw [if_neg (fun c => hz c.2)])
      subst hk
      clear HR gI gD hz
      go_enter Tryz.func41, Tryz.ntmps41
      go_wp2
      refine bodyPost_ret (v := .tuple #[.agg #[.int .i64 0, .int .i64 0, .bool false], .bool false]) (by simp [results, Tryz.results41, go_sem]) rfl ⟨by rw [HE.out]; rfl, ?_⟩
      repeat (with_reducible (first | exact two_alloc _ _ _ | refine Below.setCell ?_ (by simp) _))
  · have HE := Lib.hid (show ofP ⟨k, x, y, z⟩ = (Nm.noNum, false) by unfold ofP; rw [if_neg (fun c => hk c.1)])
    have gk : (k != 2) = true := bne_iff_ne.2 hk
    clear HR gI gD
    go_enter Tryz.func41, Tryz.ntmps41
    go_wp2
    refine bodyPost_ret (v := .tuple #[.agg #[.int .i64 0, .int .i64 0, .bool false], .bool false]) (by simp [results, Tryz.results41, go_sem]) rfl ⟨by rw [HE.out]; rfl, ?_⟩
    repeat (with_reducible (first | exact two_alloc _ _ _ | refine Below.setCell ?_ (by simp) _))

end Go.Proofs.YtkfemnjblbnclaaGreatDoor
