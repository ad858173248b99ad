/- The number that a literal is: package number's Of, for every term. -/
import Derived.Test.YtkfemnjblbnclaaGreatDoorEvalKit
import Derived.Test.YtkfemnjblbnclaaGreatDoorGTerm
import Derived.Test.YtkfemnjblbnclaaGreatDoorGNumB
namespace Go.Proofs.YtkfemnjblbnclaaGreatDoor
open Go.RowKit

abbrev GoodN := Nm.Good
def ofR (t : TermL) : Value := Nm.readRet (ofP t)
theorem two_gone {w w1 : World} {o o2 : Obj} (h1 : Below ((w.alloc o).alloc o2).heap.size ((w.alloc o).alloc o2) w1) : Below w.heap.size w w1 := ((box_below w o).alloc (by simp) o2).trans (h1.mono (by simp; omega))
theorem two_size {w w1 : World} {o o2 : Obj} (h1 : Below ((w.alloc o).alloc o2).heap.size ((w.alloc o).alloc o2) w1) : w.heap.size + 1 < w1.heap.size := by have := h1.size; simp at this; omega

set_option maxRecDepth 100000 in
set_option maxHeartbeats 2000000 in
theorem Of_calls (t : TermL) (ht : t.ok) (w : World) (hg : GoodN w) :
    Calls Tryz.prog 63 #[t.v] w fun e w' => e = .returned (ofR t) ∧ Below w.heap.size w w' := by
  have HC : Hid (∀ W, Calls Tryz.prog 83 #[.agg #[.int .i64 t.k, .string (bs t.x), .string (bs t.y), .string (bs t.z)]] W fun e w' => e = .returned (.int .i64 (formZ (rightL t.k t.x t.y t.z))) ∧ Below W.heap.size W w') := Lib.hid fun W => Check_calls t.k (bs t.x) (bs t.y) (bs t.z) W ht.1 ht.2.1 ht.2.2
  have HR : Hid (∀ d W, GoodN W → Calls Tryz.prog 84 #[.string (bs t.x), .bool d] W fun e w' => e = .returned (Nm.readRet (Nm.readL t.x d)) ∧ Below W.heap.size W w') := Lib.hid fun d W hW => Nm.Read_calls (bs t.x) d W hW ht.1
  have HO := Lib.hid (show ofR t = Nm.readRet (ofQ t) by unfold ofR; rw [of_is])
  have HG := Lib.hid hg
  clear ht hg
  obtain ⟨k, x, y, z⟩ := t
  dsimp only at HC HR
  simp only [TermL.v]
  cases hr : rightL k x y z with
  | false =>
    have HE := Lib.hid (HO.out.trans (show Nm.readRet (ofQ ⟨k, x, y, z⟩) = .tuple #[.agg #[.int .i64 0, .int .i64 0, .bool false], .int .i64 2] by unfold ofQ; rw [if_neg (by rw [hr]; simp)]; rfl))
    rw [hr, show formZ false = 2 from rfl] at HC
    clear hr HO
    go_enter Tryz.func63, Tryz.ntmps63
    go_wp2_with fail
    refine (HC.out _).mono ?_
    rintro e w1 ⟨rfl, hb1⟩
    obtain ⟨hc, hf⟩ := bcell hb1
    have hz := two_size hb1
    have HB1 := Lib.hid (two_gone hb1)
    clear hb1
    go_wp2
    refine bodyPost_ret (v := .tuple #[.agg #[.int .i64 0, .int .i64 0, .bool false], .int .i64 2]) (by simp [results, Tryz.results63, hc, go_sem]) rfl ⟨by rw [HE.out], ?_⟩
    repeat (with_reducible (first | exact HB1.out | refine Below.setCell ?_ (by simp) _))
  | true =>
    rw [hr, show formZ true = 0 from rfl] at HC
    have gI := eqI y
    have gD := eqD y
    by_cases hI : y = tyIL
    · have HE := Lib.hid (HO.out.trans (show Nm.readRet (ofQ ⟨k, x, y, z⟩) = Nm.readRet (Nm.readL x false) by unfold ofQ; rw [if_pos hr, if_pos hI]))
      rw [decide_eq_true hI] at gI
      have HR1 := Lib.hid (fun W hW => HR.out false W hW)
      clear gD hr HO hI HR
      obtain ⟨⟨⟨v, s, d⟩, b⟩, hp⟩ : ∃ p, Nm.readL x false = p := ⟨_, rfl⟩
      rw [hp] at HE HR1
      clear hp
      simp only [Nm.readRet, Nm.NumL.val] at HE HR1
      go_enter Tryz.func63, Tryz.ntmps63
      go_wp2_with fail
      refine (HC.out _).mono ?_
      rintro e w1 ⟨rfl, hb1⟩
      obtain ⟨hc, hf⟩ := bcell hb1
      have hz := two_size hb1
      have HG1 := Lib.hid (((HG.out.alloc _).alloc _).on hb1)
      have HB1 := Lib.hid hb1
      clear hb1
      go_wp2_with fail
      refine (HR1.out _ HG1.out).mono ?_
      rintro e w2 ⟨rfl, hb2⟩
      have HB2 := bnext HB1.out hb2
      clear hc hf hz hb2
      obtain ⟨hc, hf⟩ := bcell HB2
      have hz := two_size HB2
      replace HB2 := Lib.hid (two_gone HB2)
      clear HB1
      go_wp2
      refine bodyPost_ret (v := .tuple #[.agg #[.int .i64 v, .int .i64 s, .bool d], .int .i64 (Nm.errZ b)]) (by simp [results, Tryz.results63, hc, go_sem]) rfl ⟨by rw [HE.out], ?_⟩
      repeat (with_reducible (first | exact HB2.out | refine Below.setCell ?_ (by simp) _))
    · rw [decide_eq_false hI] at gI
      by_cases hD : y = tyDL
      · have HE := Lib.hid (HO.out.trans (show Nm.readRet (ofQ ⟨k, x, y, z⟩) = Nm.readRet (Nm.readL x true) by unfold ofQ; rw [if_pos hr, if_neg hI, if_pos hD]))
        rw [decide_eq_true hD] at gD
        have HR1 := Lib.hid (fun W hW => HR.out true W hW)
        clear hr HO hI hD HR
        obtain ⟨⟨⟨v, s, d⟩, b⟩, hp⟩ : ∃ p, Nm.readL x true = p := ⟨_, rfl⟩
        rw [hp] at HE HR1
        clear hp
        simp only [Nm.readRet, Nm.NumL.val] at HE HR1
        go_enter Tryz.func63, Tryz.ntmps63
        go_wp2_with fail
        refine (HC.out _).mono ?_
        rintro e w1 ⟨rfl, hb1⟩
        obtain ⟨hc, hf⟩ := bcell hb1
        have hz := two_size hb1
        have HG1 := Lib.hid (((HG.out.alloc _).alloc _).on hb1)
        have HB1 := Lib.hid hb1
        clear hb1
        go_wp2_with fail
        refine (HR1.out _ HG1.out).mono ?_
        rintro e w2 ⟨rfl, hb2⟩
        have HB2 := bnext HB1.out hb2
        clear hc hf hz hb2
        obtain ⟨hc, hf⟩ := bcell HB2
        have hz := two_size HB2
        replace HB2 := Lib.hid (two_gone HB2)
        clear HB1
        go_wp2
        refine bodyPost_ret (v := .tuple #[.agg #[.int .i64 v, .int .i64 s, .bool d], .int .i64 (Nm.errZ b)]) (by simp [results, Tryz.results63, hc, go_sem]) rfl ⟨by rw [HE.out], ?_⟩
        repeat (with_reducible (first | exact HB2.out | refine Below.setCell ?_ (by simp) _))
      · have HE := Lib.hid (HO.out.trans (show Nm.readRet (ofQ ⟨k, x, y, z⟩) = .tuple #[.agg #[.int .i64 0, .int .i64 0, .bool false], .int .i64 2] by unfold ofQ; rw [if_pos hr, if_neg hI, if_neg hD]; rfl))
        rw [decide_eq_false hD] at gD
        clear hr HO hI hD HR
        go_enter Tryz.func63, Tryz.ntmps63
        go_wp2_with fail
        refine (HC.out _).mono ?_
        rintro e w1 ⟨rfl, hb1⟩
        obtain ⟨hc, hf⟩ := bcell hb1
        have hz := two_size hb1
        have HB1 := Lib.hid (two_gone hb1)
        clear hb1
        go_wp2
        refine bodyPost_ret (v := .tuple #[.agg #[.int .i64 0, .int .i64 0, .bool false], .int .i64 2]) (by simp [results, Tryz.results63, hc, go_sem]) rfl ⟨by rw [HE.out], ?_⟩
        repeat (with_reducible (first | exact HB1.out | refine Below.setCell ?_ (by simp) _))

end Go.Proofs.YtkfemnjblbnclaaGreatDoor
