/- A term held against nought's. Which parts are right: package formula's isValue and right, for every part. -/
import Derived.Test.YtiliobfgmelncaaFormCheckPlain
import Derived.Test.YtiliobfgmelncaaBlkKit
import Derived.Test.YtiliobfgmelncaaTermCheck
namespace Go.Proofs.Ytiliobfgmelncaa
open Go.RowKit

set_option maxRecDepth 100000 in
theorem fields_term : (Try.prog.fieldsOf 40).toList = [{ name := "Kind", type := 3, offset := 0, embedded := false, tag := "", pkgPath := "", byteOffset := 0 }, { name := "Text", type := 9, offset := 1, embedded := false, tag := "", pkgPath := "", byteOffset := 8 }, { name := "Type", type := 9, offset := 2, embedded := false, tag := "", pkgPath := "", byteOffset := 24 }, { name := "Lang", type := 9, offset := 3, embedded := false, tag := "", pkgPath := "", byteOffset := 40 }] := by kernel_rfl
set_option maxRecDepth 100000 in
theorem eq_termz (d : Nat) (a : TermL) (w : World) : (Op.equalIn (d + 2) 40 (.agg #[.int .i64 a.k, .string (bs a.x), .string (bs a.y), .string (bs a.z)]) (.agg #[.int .i64 0, .string ⟨#[]⟩, .string ⟨#[]⟩, .string ⟨#[]⟩])).run Try.prog w = .ok (zeroT a) w := by
  rw [run_equalIn_agg w (d + 1) 40 _ _ Try.underlying40 (by kernel_rfl), fields_term]
  have e1 : (Op.equalIn (d + 1) 3 (.int .i64 a.k) (.int .i64 0)).run Try.prog w = .ok (a.k == 0) w := run_equalIn_int w d 3 .i64 .i64 _ _ Try.underlying3
  have e2 : ∀ s : List UInt8, (Op.equalIn (d + 1) 9 (.string (bs s)) (.string ⟨#[]⟩)).run Try.prog w = .ok (s.isEmpty) w := fun s => by
    have := run_equalIn_string (P := Try.prog) w d 9 (bs s) ⟨#[]⟩ Try.underlying9
    rw [this, bs_toList, show (⟨#[]⟩ : ByteArray).toList = ([] : List UInt8) from bs_toList []]
    cases s <;> rfl
  unfold zeroT
  have e3 : decide (a.k = 0) = (a.k == 0) := by rw [Bool.eq_iff_iff]; simp
  rw [e3]
  have p1 : ∀ (cs : Array Value) (off : Nat) (v : Value), cs[off]? = some v → (part 3 cs off).run Try.prog w = .ok v w := fun cs off v h => by simp [part, h, Try.isAgg3, go_sem]
  have p2 : ∀ (cs : Array Value) (off : Nat) (v : Value), cs[off]? = some v → (part 9 cs off).run Try.prog w = .ok v w := fun cs off v h => by simp [part, h, Try.isAgg9, go_sem]
  have a0 := p1 #[.int .i64 a.k, .string (bs a.x), .string (bs a.y), .string (bs a.z)] 0 (.int .i64 a.k) rfl
  have a1 := p2 #[.int .i64 a.k, .string (bs a.x), .string (bs a.y), .string (bs a.z)] 1 (.string (bs a.x)) rfl
  have a2 := p2 #[.int .i64 a.k, .string (bs a.x), .string (bs a.y), .string (bs a.z)] 2 (.string (bs a.y)) rfl
  have a3 := p2 #[.int .i64 a.k, .string (bs a.x), .string (bs a.y), .string (bs a.z)] 3 (.string (bs a.z)) rfl
  have b0 := p1 #[.int .i64 0, .string ⟨#[]⟩, .string ⟨#[]⟩, .string ⟨#[]⟩] 0 (.int .i64 0) rfl
  have b1 := p2 #[.int .i64 0, .string ⟨#[]⟩, .string ⟨#[]⟩, .string ⟨#[]⟩] 1 (.string ⟨#[]⟩) rfl
  have b2 := p2 #[.int .i64 0, .string ⟨#[]⟩, .string ⟨#[]⟩, .string ⟨#[]⟩] 2 (.string ⟨#[]⟩) rfl
  have b3 := p2 #[.int .i64 0, .string ⟨#[]⟩, .string ⟨#[]⟩, .string ⟨#[]⟩] 3 (.string ⟨#[]⟩) rfl
  simp only [Op.eqFields, Sem.run_ite, Sem.run_bind, a0, a1, a2, a3, b0, b1, b2, b3, Result.andThen_ok, e1, e2, Sem.run_pure]
  cases (a.k == 0) <;> cases a.x.isEmpty <;> cases a.y.isEmpty <;> cases a.z.isEmpty <;> simp
set_option maxRecDepth 100000 in
theorem eql_termz (a : TermL) (w : World) : (binOp .eql 40 (.agg #[.int .i64 a.k, .string (bs a.x), .string (bs a.y), .string (bs a.z)]) (.agg #[.int .i64 0, .string ⟨#[]⟩, .string ⟨#[]⟩, .string ⟨#[]⟩])).run Try.prog w = .ok (.bool (zeroT a)) w := by
  rw [run_eql_struct]
  have := eq_termz 9998 a w
  rw [this]; rfl
set_option maxRecDepth 100000 in
theorem neql_termz (a : TermL) (w : World) : (binOp .neq 40 (.agg #[.int .i64 a.k, .string (bs a.x), .string (bs a.y), .string (bs a.z)]) (.agg #[.int .i64 0, .string ⟨#[]⟩, .string ⟨#[]⟩, .string ⟨#[]⟩])).run Try.prog w = .ok (.bool (!zeroT a)) w := by
  rw [run_neq_struct]
  have := eq_termz 9998 a w
  rw [this]; rfl

end Go.Proofs.Ytiliobfgmelncaa

namespace Go.Proofs.Ytiliobfgmelncaa
open Go.RowKit

def TermOk (t : TermL) : Prop := t.x.length ≤ maxLen ∧ t.y.length ≤ maxLen ∧ t.z.length ≤ maxLen
def PartL.ok (p : PartL) : Prop := TermOk p.t ∧ p.m.length ≤ maxLen

set_option maxHeartbeats 1000000 in
theorem isValue_calls (t : TermL) (ht : TermOk t) (w : World) : Calls Try.prog 81 #[t.v] w fun e w' => e = .returned (.bool (valueT t)) ∧ Below w.heap.size w w' := by
  have HC : Hid (∀ W, Calls Try.prog 25 #[.agg #[.int .i64 t.k, .string (bs t.x), .string (bs t.y), .string (bs t.z)]] W fun e w' => e = .returned (.int .i64 (formZ (rightL t.k t.x t.y t.z))) ∧ Below W.heap.size W w') := Lib.hid fun W => Check_calls t.k (bs t.x) (bs t.y) (bs t.z) W ht.1 ht.2.1 ht.2.2
  clear ht
  obtain ⟨k, x, y, z⟩ := t
  dsimp only at HC
  simp only [TermL.v]
  by_cases hk : k = 1 ∨ k = 2
  · have HV := Lib.hid (show valueT ⟨k, x, y, z⟩ = rightL k x y z by unfold valueT; rcases hk with rfl | rfl <;> simp)
    obtain ⟨R, hR⟩ : ∃ R, rightL k x y z = R := ⟨_, rfl⟩
    rw [hR] at HC HV
    clear hR
    rcases hk with rfl | rfl
    all_goals
      cases R <;>
      ( go_enter Try.func81, Try.ntmps81
        go_wp2_with fail
        refine (HC.out _).mono ?_
        rintro e w1 ⟨rfl, hb1⟩
        replace hb1 := (box_below w _).trans (hb1.mono (by simp))
        simp only [formZ]
        go_wp2
        go_ret
        exact ⟨by rw [HV.out]; rfl, hb1⟩)
  · have HV := Lib.hid (show valueT ⟨k, x, y, z⟩ = false by unfold valueT; simp only [not_or] at hk; rw [decide_eq_false hk.1, decide_eq_false hk.2]; rfl)
    have g1 : (k == 1) = false := beq_eq_false_iff_ne.2 (by omega)
    have g2 : (k == 2) = false := beq_eq_false_iff_ne.2 (by omega)
    clear hk
    go_enter Try.func81, Try.ntmps81
    go_wp2
    go_ret
    exact ⟨by rw [HV.out]; rfl, box_below _ _⟩

set_option maxRecDepth 100000 in
set_option maxHeartbeats 2000000 in
theorem fRight_calls (p : PartL) (hp : p.ok) (w : World) : Calls Try.prog 67 #[p.v] w fun e w' => e = .returned (.bool (rightM p)) ∧ Below w.heap.size w w' := by
  have HV := Lib.hid (fun W => isValue_calls p.t hp.1 W)
  have HN := Lib.hid (fun W => IsName_calls (bs p.m) W hp.2)
  clear hp
  obtain ⟨k, ⟨tk, tx, ty, tz⟩, m, c⟩ := p
  simp only [TermL.v, bs_data] at HV HN
  simp only [PartL.v]
  have HB := Lib.hid (bs_toList m)
  by_cases h1 : k = 1
  · subst h1
    have HR := Lib.hid (show rightM ⟨1, ⟨tk, tx, ty, tz⟩, m, c⟩ = (valueT ⟨tk, tx, ty, tz⟩ && m.isEmpty) by unfold rightM; rfl)
    obtain ⟨R, hR⟩ : ∃ R, valueT ⟨tk, tx, ty, tz⟩ = R := ⟨_, rfl⟩
    rw [hR] at HV HR
    clear hR
    go_enter Try.func67, Try.ntmps67
    go_wp2_with fail
    refine (HV.out _).mono ?_
    rintro e w1 ⟨rfl, hb1⟩
    obtain ⟨hc, hf⟩ := bcell hb1
    have hB := Lib.hid ((box_below w _).trans (hb1.mono (by simp)))
    clear hb1
    cases R <;>
    ( go_wp2
      go_ret
      refine ⟨?_, hB.out⟩
      rw [HR.out]
      first | rfl | (show Ending.returned (.bool (bs m).toList.isEmpty) = _; rw [HB.out]; rfl))
  · have g1 : (k == 1) = false := beq_eq_false_iff_ne.2 h1
    have heq := fun W => eql_termz ⟨tk, tx, ty, tz⟩ W
    dsimp only at heq
    obtain ⟨N, hN⟩ : ∃ N, nameL m = N := ⟨_, rfl⟩
    obtain ⟨Z, hZ⟩ : ∃ Z, zeroT ⟨tk, tx, ty, tz⟩ = Z := ⟨_, rfl⟩
    rw [hN] at HN
    rw [hZ] at heq
    by_cases h2 : k = 2 ∨ k = 3
    · have HR := Lib.hid (show rightM ⟨k, ⟨tk, tx, ty, tz⟩, m, c⟩ = (N && Z) by unfold rightM; rw [if_neg h1, if_pos h2, ← hN, ← hZ])
      clear hN h1 g1 HV hZ
      rcases h2 with rfl | rfl
      all_goals
        go_enter Try.func67, Try.ntmps67
        go_wp2_with fail
        refine (HN.out _).mono ?_
        rintro e w1 ⟨rfl, hb1⟩
        obtain ⟨hc, hf⟩ := bcell hb1
        have hB := Lib.hid ((box_below w _).trans (hb1.mono (by simp)))
        clear hb1
        cases N <;> cases Z <;>
        ( go_wp2
          go_ret
          exact ⟨by rw [HR.out]; rfl, hB.out⟩)
    · have HR := Lib.hid (show rightM ⟨k, ⟨tk, tx, ty, tz⟩, m, c⟩ = (m.isEmpty && Z) by unfold rightM; rw [if_neg h1, if_neg h2, ← hZ])
      have g2 : (k == 2) = false := beq_eq_false_iff_ne.2 (by omega)
      have g3 : (k == 3) = false := beq_eq_false_iff_ne.2 (by omega)
      clear hN h1 h2 HV hZ HN
      cases m with
      | nil =>
        have ge : (bs []).toList.isEmpty = true := by rw [bs_toList]; rfl
        cases Z <;>
        ( go_enter Try.func67, Try.ntmps67
          go_wp2
          go_ret
          exact ⟨by rw [HR.out]; rfl, box_below _ _⟩)
      | cons u v =>
        have ge : (bs (u :: v)).toList.isEmpty = false := by rw [bs_toList]; rfl
        go_enter Try.func67, Try.ntmps67
        go_wp2
        go_ret
        exact ⟨by rw [HR.out]; rfl, box_below _ _⟩

end Go.Proofs.Ytiliobfgmelncaa
