/- Which of two arrays of three terms is ahead: slices.CompareFunc with term.Compare. -/
import Derived.Test.YthdhoaihmlodjaaTripMid
import Derived.Test.YthdhoaihmlodjaaTermCompare
namespace Go.Proofs.Ythdhoaihmlodjaa
open Go.RowKit

def TermL.cmp (a b : TermL) : Int := termCmp a.k a.x a.y a.z b.k b.x b.y b.z
/- the order of triples -/
def tripCmp (t u : TripL) : Int := if t.s.cmp u.s ≠ 0 then t.s.cmp u.s else if t.p.cmp u.p ≠ 0 then t.p.cmp u.p else t.o.cmp u.o

/- what the rounds keep -/
def Even (W : World) (c1 c2 c3 : Int) (i : Value) (wr : World) : Prop := ∃ n : Nat, n ≤ 3 ∧ i = .int .i64 n ∧ Below W.heap.size W wr ∧ (1 ≤ n → c1 = 0) ∧ (2 ≤ n → c2 = 0) ∧ (3 ≤ n → c3 = 0)

set_option maxRecDepth 100000 in
set_option maxHeartbeats 4000000 in
theorem CompareFunc_calls (t u : TripL) (X Y : Nat) (w : World) (hX : Blk w X 45 (cells12 t)) (hY : Blk w Y 45 (cells12 u)) :
    Calls Try.prog 28 #[.slice (some ⟨X, 0, none⟩) 3 3, .slice (some ⟨Y, 0, none⟩) 3 3, (.func (.func 29) #[] #[])] w fun e w' => e = .returned (.int .i64 (tripCmp t u)) ∧ Below w.heap.size w w' := by
  obtain ⟨⟨ak, ax, ay, az⟩, ⟨bk, bx, by', bz⟩, ⟨ck, cx, cy, cz⟩⟩ := t
  obtain ⟨⟨ak2, ax2, ay2, az2⟩, ⟨bk2, bx2, by2, bz2⟩, ⟨ck2, cx2, cy2, cz2⟩⟩ := u
  go_enter Try.func28, Try.ntmps28
  go_wp2
  go_loopw [13] (fun i wr => Even w (termCmp ak ax ay az ak2 ax2 ay2 az2) (termCmp bk bx by' bz bk2 bx2 by2 bz2) (termCmp ck cx cy cz ck2 cx2 cy2 cz2) i wr) (fun i _ => 3 - (intOf i).toNat)
  case atStart => exact ⟨0, by omega, rfl, Below.refl _ _, fun h => by omega, fun h => by omega, fun h => by omega⟩
  case round =>
    obtain ⟨n, hn, rfl, hbw, p0, p1, p2⟩ := hrel
    have hX2 := blk_on hX hbw (blk_lt hX)
    have hY2 := blk_on hY hbw (blk_lt hY)
    have hzX := blk_lt hX2
    have hzY := blk_lt hY2
    rcases (by omega : n = 0 ∨ n = 1 ∨ n = 2 ∨ n = 3) with rfl | rfl | rfl | rfl
    · have q0 : wr.cell? ⟨X, 0, none⟩ = some (.int .i64 ak) := by rw [blk_cell hX2]; rfl
      have q1 : wr.cell? ⟨X, 1, none⟩ = some (.string (bs ax)) := by rw [blk_cell hX2]; rfl
      have q2 : wr.cell? ⟨X, 2, none⟩ = some (.string (bs ay)) := by rw [blk_cell hX2]; rfl
      have q3 : wr.cell? ⟨X, 3, none⟩ = some (.string (bs az)) := by rw [blk_cell hX2]; rfl
      have r0 : wr.cell? ⟨Y, 0, none⟩ = some (.int .i64 ak2) := by rw [blk_cell hY2]; rfl
      have r1 : wr.cell? ⟨Y, 1, none⟩ = some (.string (bs ax2)) := by rw [blk_cell hY2]; rfl
      have r2 : wr.cell? ⟨Y, 2, none⟩ = some (.string (bs ay2)) := by rw [blk_cell hY2]; rfl
      have r3 : wr.cell? ⟨Y, 3, none⟩ = some (.string (bs az2)) := by rw [blk_cell hY2]; rfl
      clear hX2 hY2
      by_cases hc : (termCmp ak ax ay az ak2 ax2 ay2 az2) = 0
      · have HC := Lib.hid hc
        have HE := Lib.hid (show Even w (termCmp ak ax ay az ak2 ax2 ay2 az2) (termCmp bk bx by' bz bk2 bx2 by2 bz2) (termCmp ck cx cy cz ck2 cx2 cy2 cz2) (.int .i64 ((1 : Nat) : Int)) w from ⟨1, by omega, rfl, Below.refl _ _, fun _ => hc, fun h => by omega, fun h => by omega⟩)
        clear hc p0 p1 p2
        go_wp2_with fail
        refine (Compare_calls ak (bs ax) (bs ay) (bs az) ak2 (bs ax2) (bs ay2) (bs az2) _).mono ?_
        rintro e w1 ⟨rfl, hb1⟩
        simp only [bs_data]
        have hb2 : Below w.heap.size w w1 := ((hbw.alloc hbw.size _).alloc (by have := hbw.size; simp; omega) _).trans (hb1.mono (by have := hbw.size; simp; omega))
        clear hb1
        rw [HC.out]
        go_wp2
        go_roundw
        case rel =>
          obtain ⟨m, hm, he, _, e0, e1, e2⟩ := HE.out
          have hm' : m = 1 := by simp at he; omega
          subst hm'
          exact ⟨1, by omega, by go_num, hb2, e0, e1, e2⟩
        case measure => simp [intOf]
      · have HR := Lib.hid (show tripCmp ⟨⟨ak, ax, ay, az⟩, ⟨bk, bx, by', bz⟩, ⟨ck, cx, cy, cz⟩⟩ ⟨⟨ak2, ax2, ay2, az2⟩, ⟨bk2, bx2, by2, bz2⟩, ⟨ck2, cx2, cy2, cz2⟩⟩ = (termCmp ak ax ay az ak2 ax2 ay2 az2) by
          unfold tripCmp TermL.cmp
          rw [if_pos hc])
        have hne : ((termCmp ak ax ay az ak2 ax2 ay2 az2) != 0) = true := by simpa using hc
        have HC := Lib.hid hne
        clear hc p0 p1 p2 hne
        obtain ⟨C, hC⟩ : ∃ C, (termCmp ak ax ay az ak2 ax2 ay2 az2) = C := ⟨_, rfl⟩
        rw [hC] at HC HR
        have HCC := Lib.hid hC
        clear hC
        go_wp2_with fail
        refine (Compare_calls ak (bs ax) (bs ay) (bs az) ak2 (bs ax2) (bs ay2) (bs az2) _).mono ?_
        rintro e w1 ⟨rfl, hb1⟩
        simp only [bs_data]
        have hb2 : Below w.heap.size w w1 := ((hbw.alloc hbw.size _).alloc (by have := hbw.size; simp; omega) _).trans (hb1.mono (by have := hbw.size; simp; omega))
        clear hb1
        rw [HCC.out]
        have hne := HC.out
        go_wp2
        go_ret
        exact ⟨by rw [HR.out]; rfl, hb2⟩
    · have q0 : wr.cell? ⟨X, 4, none⟩ = some (.int .i64 bk) := by rw [blk_cell hX2]; rfl
      have q1 : wr.cell? ⟨X, 5, none⟩ = some (.string (bs bx)) := by rw [blk_cell hX2]; rfl
      have q2 : wr.cell? ⟨X, 6, none⟩ = some (.string (bs by')) := by rw [blk_cell hX2]; rfl
      have q3 : wr.cell? ⟨X, 7, none⟩ = some (.string (bs bz)) := by rw [blk_cell hX2]; rfl
      have r0 : wr.cell? ⟨Y, 4, none⟩ = some (.int .i64 bk2) := by rw [blk_cell hY2]; rfl
      have r1 : wr.cell? ⟨Y, 5, none⟩ = some (.string (bs bx2)) := by rw [blk_cell hY2]; rfl
      have r2 : wr.cell? ⟨Y, 6, none⟩ = some (.string (bs by2)) := by rw [blk_cell hY2]; rfl
      have r3 : wr.cell? ⟨Y, 7, none⟩ = some (.string (bs bz2)) := by rw [blk_cell hY2]; rfl
      clear hX2 hY2
      by_cases hc : (termCmp bk bx by' bz bk2 bx2 by2 bz2) = 0
      · have HC := Lib.hid hc
        have HE := Lib.hid (show Even w (termCmp ak ax ay az ak2 ax2 ay2 az2) (termCmp bk bx by' bz bk2 bx2 by2 bz2) (termCmp ck cx cy cz ck2 cx2 cy2 cz2) (.int .i64 ((2 : Nat) : Int)) w from ⟨2, by omega, rfl, Below.refl _ _, fun _ => p0 (by omega), fun _ => hc, fun h => by omega⟩)
        clear hc p0 p1 p2
        go_wp2_with fail
        refine (Compare_calls bk (bs bx) (bs by') (bs bz) bk2 (bs bx2) (bs by2) (bs bz2) _).mono ?_
        rintro e w1 ⟨rfl, hb1⟩
        simp only [bs_data]
        have hb2 : Below w.heap.size w w1 := ((hbw.alloc hbw.size _).alloc (by have := hbw.size; simp; omega) _).trans (hb1.mono (by have := hbw.size; simp; omega))
        clear hb1
        rw [HC.out]
        go_wp2
        go_roundw
        case rel =>
          obtain ⟨m, hm, he, _, e0, e1, e2⟩ := HE.out
          have hm' : m = 2 := by simp at he; omega
          subst hm'
          exact ⟨2, by omega, by go_num, hb2, e0, e1, e2⟩
        case measure => simp [intOf]
      · have HR := Lib.hid (show tripCmp ⟨⟨ak, ax, ay, az⟩, ⟨bk, bx, by', bz⟩, ⟨ck, cx, cy, cz⟩⟩ ⟨⟨ak2, ax2, ay2, az2⟩, ⟨bk2, bx2, by2, bz2⟩, ⟨ck2, cx2, cy2, cz2⟩⟩ = (termCmp bk bx by' bz bk2 bx2 by2 bz2) by
          unfold tripCmp TermL.cmp
          rw [if_neg (by simpa using p0 (by omega)), if_pos hc])
        have hne : ((termCmp bk bx by' bz bk2 bx2 by2 bz2) != 0) = true := by simpa using hc
        have HC := Lib.hid hne
        clear hc p0 p1 p2 hne
        obtain ⟨C, hC⟩ : ∃ C, (termCmp bk bx by' bz bk2 bx2 by2 bz2) = C := ⟨_, rfl⟩
        rw [hC] at HC HR
        have HCC := Lib.hid hC
        clear hC
        go_wp2_with fail
        refine (Compare_calls bk (bs bx) (bs by') (bs bz) bk2 (bs bx2) (bs by2) (bs bz2) _).mono ?_
        rintro e w1 ⟨rfl, hb1⟩
        simp only [bs_data]
        have hb2 : Below w.heap.size w w1 := ((hbw.alloc hbw.size _).alloc (by have := hbw.size; simp; omega) _).trans (hb1.mono (by have := hbw.size; simp; omega))
        clear hb1
        rw [HCC.out]
        have hne := HC.out
        go_wp2
        go_ret
        exact ⟨by rw [HR.out]; rfl, hb2⟩
    · have q0 : wr.cell? ⟨X, 8, none⟩ = some (.int .i64 ck) := by rw [blk_cell hX2]; rfl
      have q1 : wr.cell? ⟨X, 9, none⟩ = some (.string (bs cx)) := by rw [blk_cell hX2]; rfl
      have q2 : wr.cell? ⟨X, 10, none⟩ = some (.string (bs cy)) := by rw [blk_cell hX2]; rfl
      have q3 : wr.cell? ⟨X, 11, none⟩ = some (.string (bs cz)) := by rw [blk_cell hX2]; rfl
      have r0 : wr.cell? ⟨Y, 8, none⟩ = some (.int .i64 ck2) := by rw [blk_cell hY2]; rfl
      have r1 : wr.cell? ⟨Y, 9, none⟩ = some (.string (bs cx2)) := by rw [blk_cell hY2]; rfl
      have r2 : wr.cell? ⟨Y, 10, none⟩ = some (.string (bs cy2)) := by rw [blk_cell hY2]; rfl
      have r3 : wr.cell? ⟨Y, 11, none⟩ = some (.string (bs cz2)) := by rw [blk_cell hY2]; rfl
      clear hX2 hY2
      by_cases hc : (termCmp ck cx cy cz ck2 cx2 cy2 cz2) = 0
      · have HC := Lib.hid hc
        have HE := Lib.hid (show Even w (termCmp ak ax ay az ak2 ax2 ay2 az2) (termCmp bk bx by' bz bk2 bx2 by2 bz2) (termCmp ck cx cy cz ck2 cx2 cy2 cz2) (.int .i64 ((3 : Nat) : Int)) w from ⟨3, by omega, rfl, Below.refl _ _, fun _ => p0 (by omega), fun _ => p1 (by omega), fun _ => hc⟩)
        clear hc p0 p1 p2
        go_wp2_with fail
        refine (Compare_calls ck (bs cx) (bs cy) (bs cz) ck2 (bs cx2) (bs cy2) (bs cz2) _).mono ?_
        rintro e w1 ⟨rfl, hb1⟩
        simp only [bs_data]
        have hb2 : Below w.heap.size w w1 := ((hbw.alloc hbw.size _).alloc (by have := hbw.size; simp; omega) _).trans (hb1.mono (by have := hbw.size; simp; omega))
        clear hb1
        rw [HC.out]
        go_wp2
        go_roundw
        case rel =>
          obtain ⟨m, hm, he, _, e0, e1, e2⟩ := HE.out
          have hm' : m = 3 := by simp at he; omega
          subst hm'
          exact ⟨3, by omega, by go_num, hb2, e0, e1, e2⟩
        case measure => simp [intOf]
      · have HR := Lib.hid (show tripCmp ⟨⟨ak, ax, ay, az⟩, ⟨bk, bx, by', bz⟩, ⟨ck, cx, cy, cz⟩⟩ ⟨⟨ak2, ax2, ay2, az2⟩, ⟨bk2, bx2, by2, bz2⟩, ⟨ck2, cx2, cy2, cz2⟩⟩ = (termCmp ck cx cy cz ck2 cx2 cy2 cz2) by
          unfold tripCmp TermL.cmp
          rw [if_neg (by simpa using p0 (by omega)), if_neg (by simpa using p1 (by omega))])
        have hne : ((termCmp ck cx cy cz ck2 cx2 cy2 cz2) != 0) = true := by simpa using hc
        have HC := Lib.hid hne
        clear hc p0 p1 p2 hne
        obtain ⟨C, hC⟩ : ∃ C, (termCmp ck cx cy cz ck2 cx2 cy2 cz2) = C := ⟨_, rfl⟩
        rw [hC] at HC HR
        have HCC := Lib.hid hC
        clear hC
        go_wp2_with fail
        refine (Compare_calls ck (bs cx) (bs cy) (bs cz) ck2 (bs cx2) (bs cy2) (bs cz2) _).mono ?_
        rintro e w1 ⟨rfl, hb1⟩
        simp only [bs_data]
        have hb2 : Below w.heap.size w w1 := ((hbw.alloc hbw.size _).alloc (by have := hbw.size; simp; omega) _).trans (hb1.mono (by have := hbw.size; simp; omega))
        clear hb1
        rw [HCC.out]
        have hne := HC.out
        go_wp2
        go_ret
        exact ⟨by rw [HR.out]; rfl, hb2⟩
    · have HR := Lib.hid (show tripCmp ⟨⟨ak, ax, ay, az⟩, ⟨bk, bx, by', bz⟩, ⟨ck, cx, cy, cz⟩⟩ ⟨⟨ak2, ax2, ay2, az2⟩, ⟨bk2, bx2, by2, bz2⟩, ⟨ck2, cx2, cy2, cz2⟩⟩ = 0 by
        unfold tripCmp TermL.cmp
        rw [if_neg (by simpa using p0 (by omega)), if_neg (by simpa using p1 (by omega))]; exact p2 (by omega))
      clear p0 p1 p2
      go_wp2
      go_ret
      exact ⟨by rw [HR.out]; rfl, hbw⟩

end Go.Proofs.Ythdhoaihmlodjaa
