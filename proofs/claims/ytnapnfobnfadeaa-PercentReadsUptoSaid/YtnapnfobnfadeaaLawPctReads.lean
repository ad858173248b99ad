/- The pairs of any text, or why there are none; the value of any key: the walk of the statement's function. -/
import Derived.Test.YtnapnfobnfadeaaRPctRead
import Derived.Test.YtnapnfobnfadeaaRPctSame
import Derived.Test.YtnapnfobnfadeaaPctAwake
namespace Go.Proofs.Ytnapnfobnfadeaa
open Go.RowKit

theorem read_slice {w w' : World} {q : List PairL × Int} {e : Ending} (h : ReadT w q e w') : ∃ a c, e = .returned (.tuple #[.slice a q.1.length c, .int .i64 q.2]) ∧ PrA w' a q.1.length c q.1 ∧ Below w.heap.size w w' := by
  obtain ⟨v, rfl, hown, hb⟩ := h
  obtain ⟨a, c, rfl, hP⟩ := prA_own hown rfl
  exact ⟨a, c, rfl, hP, hb⟩

set_option maxRecDepth 100000 in
set_option maxHeartbeats 1000000 in
theorem percentReads_calls (s key : ByteArray) (w : World) (hs : s.size ≤ 4000000000000) (_hk : key.size ≤ maxLen) :
    Calls Try.prog 6 #[.string s, .string key] w fun e w' => e = .returned (.bool true) ∧ Below w.heap.size w w' := by
  have HP := Lib.hid (fun W => pRead_calls s W (by omega))
  have HR := Lib.hid (fun W => rRead_calls s W hs)
  generalize rdS s.data.toList = q at HP HR
  obtain ⟨L, r⟩ := q
  obtain ⟨⟨gv, gr⟩, hg⟩ : ∃ g, getS L key.data.toList = g := ⟨_, rfl⟩
  have HG := Lib.hid hg
  obtain ⟨n, hn⟩ : ∃ n, L.length = n := ⟨_, rfl⟩
  have HN := Lib.hid hn
  clear hg hn
  go_enter Try.func6, Try.ntmps6
  go_wp2_with fail
  refine (HP.out _).mono ?_
  intro e W1 ht
  obtain ⟨a1, c1, rfl, hP1, hb⟩ := read_slice ht
  dsimp only at hP1
  rw [HN.out] at hP1 ⊢
  have HB1 := Lib.hid hb
  have HP1 := Lib.hid hP1
  clear hb ht hP1
  go_wp2_with fail
  refine (HR.out _).mono ?_
  intro e W2 ht
  obtain ⟨a2, c2, rfl, hP2, hb⟩ := read_slice ht
  dsimp only at hP2
  rw [HN.out] at hP2 ⊢
  have HB2 := Lib.hid (fb2 HB1.out hb (Nat.le_refl _))
  have HP12 := Lib.hid (HP1.out.on hb)
  have HP2 := Lib.hid hP2
  clear hb ht hP2
  go_wp2_with fail
  refine (pGet_calls L key a2 n c2 W2 HP2.out).mono ?_
  rintro e W3 ⟨rfl, hb⟩
  rw [HG.out]
  dsimp only
  have HB3 := Lib.hid (fb2 HB2.out hb (Nat.le_refl _))
  have HP13 := Lib.hid (HP12.out.on hb)
  have HP23 := Lib.hid (HP2.out.on hb)
  clear hb
  go_wp2_with fail
  refine (rGet_calls L key a2 n c2 W3 HP23.out).mono ?_
  rintro e W4 ⟨rfl, hb⟩
  rw [HG.out]
  dsimp only
  have HB4 := Lib.hid (fb2 HB3.out hb (Nat.le_refl _))
  have HP14 := Lib.hid (HP13.out.on hb)
  have HP24 := Lib.hid (HP23.out.on hb)
  clear hb
  generalize bs gv = A
  go_wp2_with fail
  refine (same_calls L a1 a2 n c1 c2 W4 HP14.out HP24.out).mono ?_
  rintro e W5 ⟨rfl, hb⟩
  have HB5 := Lib.hid (fb2 HB4.out hb (Nat.le_refl _))
  clear hb
  go_wp2_with fail
  refine (awake_calls _).mono ?_
  rintro e W6 ⟨rfl, hb⟩
  have HB6 := Lib.hid (fb2 HB5.out hb (Nat.le_refl _))
  clear hb
  go_wp2
  go_ret
  exact ⟨rfl, HB6.out⟩

end Go.Proofs.Ytnapnfobnfadeaa
