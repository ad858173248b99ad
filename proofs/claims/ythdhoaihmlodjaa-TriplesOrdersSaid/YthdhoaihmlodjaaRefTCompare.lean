/- Which of two triples is ahead, by the document's own answer. -/
import Derived.Test.YthdhoaihmlodjaaTripCompare
import Derived.Test.YthdhoaihmlodjaaRefCompare
namespace Go.Proofs.Ythdhoaihmlodjaa
open Go.RowKit

theorem first_step {W W' W'' : World} (h : Below W.heap.size W W') (h' : Below W'.heap.size W' W'') : Below W.heap.size W W'' := h.trans (h'.mono h.size)
theorem two_down {w w' : World} {o o2 : Obj} (h : Below ((w.alloc o).alloc o2).heap.size ((w.alloc o).alloc o2) w') : Below w.heap.size w w' := (two_alloc w o o2).trans (h.mono (by simp; omega))

set_option maxRecDepth 100000 in
set_option maxHeartbeats 4000000 in
theorem rtCompare_calls (t u : TripL) (w : World) (ht : t.ok) (hu : u.ok) :
    Calls Try.prog 19 #[t.v, u.v] w fun e w' => e = .returned (.int .i64 (tripCmp t u)) ∧ Below w.heap.size w w' := by
  have HOK := Lib.hid (show t.ok ∧ u.ok from ⟨ht, hu⟩)
  clear ht hu
  obtain ⟨⟨ak, ax, ay, az⟩, ⟨bk, bx, by', bz⟩, ⟨ck, cx, cy, cz⟩⟩ := t
  obtain ⟨⟨ak2, ax2, ay2, az2⟩, ⟨bk2, bx2, by2, bz2⟩, ⟨ck2, cx2, cy2, cz2⟩⟩ := u
  simp only [TripL.v]
  by_cases h0 : (termCmp ak ax ay az ak2 ax2 ay2 az2) = 0
  · by_cases h1 : (termCmp bk bx by' bz bk2 bx2 by2 bz2) = 0
    · have HR := Lib.hid (show tripCmp ⟨⟨ak, ax, ay, az⟩, ⟨bk, bx, by', bz⟩, ⟨ck, cx, cy, cz⟩⟩ ⟨⟨ak2, ax2, ay2, az2⟩, ⟨bk2, bx2, by2, bz2⟩, ⟨ck2, cx2, cy2, cz2⟩⟩ = (termCmp ck cx cy cz ck2 cx2 cy2 cz2) by unfold tripCmp TermL.cmp; rw [if_neg (by simpa using h0), if_neg (by simpa using h1)])
      have H0 := Lib.hid h0
      have H1 := Lib.hid h1
      clear h0 h1
      go_enter Try.func19, Try.ntmps19
      have hb : Below ((w.alloc (.cells #[.int .i64 ak, .string (bs ax), .string (bs ay), .string (bs az), .int .i64 bk, .string (bs bx), .string (bs by'), .string (bs bz), .int .i64 ck, .string (bs cx), .string (bs cy), .string (bs cz)] 25)).alloc (.cells #[.int .i64 ak2, .string (bs ax2), .string (bs ay2), .string (bs az2), .int .i64 bk2, .string (bs bx2), .string (bs by2), .string (bs bz2), .int .i64 ck2, .string (bs cx2), .string (bs cy2), .string (bs cz2)] 25)).heap.size ((w.alloc (.cells #[.int .i64 ak, .string (bs ax), .string (bs ay), .string (bs az), .int .i64 bk, .string (bs bx), .string (bs by'), .string (bs bz), .int .i64 ck, .string (bs cx), .string (bs cy), .string (bs cz)] 25)).alloc (.cells #[.int .i64 ak2, .string (bs ax2), .string (bs ay2), .string (bs az2), .int .i64 bk2, .string (bs bx2), .string (bs by2), .string (bs bz2), .int .i64 ck2, .string (bs cx2), .string (bs cy2), .string (bs cz2)] 25)) ((w.alloc (.cells #[.int .i64 ak, .string (bs ax), .string (bs ay), .string (bs az), .int .i64 bk, .string (bs bx), .string (bs by'), .string (bs bz), .int .i64 ck, .string (bs cx), .string (bs cy), .string (bs cz)] 25)).alloc (.cells #[.int .i64 ak2, .string (bs ax2), .string (bs ay2), .string (bs az2), .int .i64 bk2, .string (bs bx2), .string (bs by2), .string (bs bz2), .int .i64 ck2, .string (bs cx2), .string (bs cy2), .string (bs cz2)] 25)) := Below.refl _ _
      go_wp2_with fail
      refine (rCompare_calls ak (bs ax) (bs ay) (bs az) ak2 (bs ax2) (bs ay2) (bs az2) _ HOK.out.1.1.1 HOK.out.1.1.2.1 HOK.out.1.1.2.2 HOK.out.2.1.1 HOK.out.2.1.2.1 HOK.out.2.1.2.2).mono ?_
      rintro e w1 ⟨rfl, hbv⟩
      simp only [bs_data]
      rw [H0.out]
      replace hb := (first_step hb hbv)
      clear hbv
      (try clear hc hf hz)
      obtain ⟨hc, hf⟩ := bcell hb
      have hz : w.heap.size + 1 < w1.heap.size := by have := hb.size; simp at this; omega
      go_wp2_with fail
      refine (rCompare_calls bk (bs bx) (bs by') (bs bz) bk2 (bs bx2) (bs by2) (bs bz2) _ HOK.out.1.2.1.1 HOK.out.1.2.1.2.1 HOK.out.1.2.1.2.2 HOK.out.2.2.1.1 HOK.out.2.2.1.2.1 HOK.out.2.2.1.2.2).mono ?_
      rintro e w2 ⟨rfl, hbv⟩
      simp only [bs_data]
      rw [H1.out]
      replace hb := (first_step hb hbv)
      clear hbv
      (try clear hc hf hz)
      obtain ⟨hc, hf⟩ := bcell hb
      have hz : w.heap.size + 1 < w2.heap.size := by have := hb.size; simp at this; omega
      go_wp2_with fail
      refine (rCompare_calls ck (bs cx) (bs cy) (bs cz) ck2 (bs cx2) (bs cy2) (bs cz2) _ HOK.out.1.2.2.1 HOK.out.1.2.2.2.1 HOK.out.1.2.2.2.2 HOK.out.2.2.2.1 HOK.out.2.2.2.2.1 HOK.out.2.2.2.2.2).mono ?_
      rintro e w3 ⟨rfl, hbv⟩
      simp only [bs_data]
      replace hb := (first_step hb hbv)
      clear hbv
      (try clear hc hf hz)
      obtain ⟨hc, hf⟩ := bcell hb
      have hz : w.heap.size + 1 < w3.heap.size := by have := hb.size; simp at this; omega
      go_wp2
      go_ret
      exact ⟨by rw [HR.out]; rfl, two_down hb⟩
    · have HR := Lib.hid (show tripCmp ⟨⟨ak, ax, ay, az⟩, ⟨bk, bx, by', bz⟩, ⟨ck, cx, cy, cz⟩⟩ ⟨⟨ak2, ax2, ay2, az2⟩, ⟨bk2, bx2, by2, bz2⟩, ⟨ck2, cx2, cy2, cz2⟩⟩ = (termCmp bk bx by' bz bk2 bx2 by2 bz2) by unfold tripCmp TermL.cmp; rw [if_neg (by simpa using h0), if_pos h1])
      have H0 := Lib.hid h0
      have hne := (show ((termCmp bk bx by' bz bk2 bx2 by2 bz2) != 0) = true by simpa using h1)
      clear h0 h1
      obtain ⟨C, hC⟩ : ∃ C, (termCmp bk bx by' bz bk2 bx2 by2 bz2) = C := ⟨_, rfl⟩
      rw [hC] at hne HR
      have HC := Lib.hid hC
      clear hC
      go_enter Try.func19, Try.ntmps19
      have hb : Below ((w.alloc (.cells #[.int .i64 ak, .string (bs ax), .string (bs ay), .string (bs az), .int .i64 bk, .string (bs bx), .string (bs by'), .string (bs bz), .int .i64 ck, .string (bs cx), .string (bs cy), .string (bs cz)] 25)).alloc (.cells #[.int .i64 ak2, .string (bs ax2), .string (bs ay2), .string (bs az2), .int .i64 bk2, .string (bs bx2), .string (bs by2), .string (bs bz2), .int .i64 ck2, .string (bs cx2), .string (bs cy2), .string (bs cz2)] 25)).heap.size ((w.alloc (.cells #[.int .i64 ak, .string (bs ax), .string (bs ay), .string (bs az), .int .i64 bk, .string (bs bx), .string (bs by'), .string (bs bz), .int .i64 ck, .string (bs cx), .string (bs cy), .string (bs cz)] 25)).alloc (.cells #[.int .i64 ak2, .string (bs ax2), .string (bs ay2), .string (bs az2), .int .i64 bk2, .string (bs bx2), .string (bs by2), .string (bs bz2), .int .i64 ck2, .string (bs cx2), .string (bs cy2), .string (bs cz2)] 25)) ((w.alloc (.cells #[.int .i64 ak, .string (bs ax), .string (bs ay), .string (bs az), .int .i64 bk, .string (bs bx), .string (bs by'), .string (bs bz), .int .i64 ck, .string (bs cx), .string (bs cy), .string (bs cz)] 25)).alloc (.cells #[.int .i64 ak2, .string (bs ax2), .string (bs ay2), .string (bs az2), .int .i64 bk2, .string (bs bx2), .string (bs by2), .string (bs bz2), .int .i64 ck2, .string (bs cx2), .string (bs cy2), .string (bs cz2)] 25)) := Below.refl _ _
      go_wp2_with fail
      refine (rCompare_calls ak (bs ax) (bs ay) (bs az) ak2 (bs ax2) (bs ay2) (bs az2) _ HOK.out.1.1.1 HOK.out.1.1.2.1 HOK.out.1.1.2.2 HOK.out.2.1.1 HOK.out.2.1.2.1 HOK.out.2.1.2.2).mono ?_
      rintro e w4 ⟨rfl, hbv⟩
      simp only [bs_data]
      rw [H0.out]
      replace hb := (first_step hb hbv)
      clear hbv
      (try clear hc hf hz)
      obtain ⟨hc, hf⟩ := bcell hb
      have hz : w.heap.size + 1 < w4.heap.size := by have := hb.size; simp at this; omega
      go_wp2_with fail
      refine (rCompare_calls bk (bs bx) (bs by') (bs bz) bk2 (bs bx2) (bs by2) (bs bz2) _ HOK.out.1.2.1.1 HOK.out.1.2.1.2.1 HOK.out.1.2.1.2.2 HOK.out.2.2.1.1 HOK.out.2.2.1.2.1 HOK.out.2.2.1.2.2).mono ?_
      rintro e w5 ⟨rfl, hbv⟩
      simp only [bs_data]
      rw [HC.out]
      replace hb := (first_step hb hbv)
      clear hbv
      (try clear hc hf hz)
      obtain ⟨hc, hf⟩ := bcell hb
      have hz : w.heap.size + 1 < w5.heap.size := by have := hb.size; simp at this; omega
      go_wp2_with fail
      refine (rCompare_calls bk (bs bx) (bs by') (bs bz) bk2 (bs bx2) (bs by2) (bs bz2) _ HOK.out.1.2.1.1 HOK.out.1.2.1.2.1 HOK.out.1.2.1.2.2 HOK.out.2.2.1.1 HOK.out.2.2.1.2.1 HOK.out.2.2.1.2.2).mono ?_
      rintro e w6 ⟨rfl, hbv⟩
      simp only [bs_data]
      rw [HC.out]
      replace hb := (first_step hb hbv)
      clear hbv
      (try clear hc hf hz)
      obtain ⟨hc, hf⟩ := bcell hb
      have hz : w.heap.size + 1 < w6.heap.size := by have := hb.size; simp at this; omega
      go_wp2
      go_ret
      exact ⟨by rw [HR.out]; rfl, two_down hb⟩
  · have HR := Lib.hid (show tripCmp ⟨⟨ak, ax, ay, az⟩, ⟨bk, bx, by', bz⟩, ⟨ck, cx, cy, cz⟩⟩ ⟨⟨ak2, ax2, ay2, az2⟩, ⟨bk2, bx2, by2, bz2⟩, ⟨ck2, cx2, cy2, cz2⟩⟩ = (termCmp ak ax ay az ak2 ax2 ay2 az2) by unfold tripCmp TermL.cmp; rw [if_pos h0])
    have hne := (show ((termCmp ak ax ay az ak2 ax2 ay2 az2) != 0) = true by simpa using h0)
    clear h0
    obtain ⟨C, hC⟩ : ∃ C, (termCmp ak ax ay az ak2 ax2 ay2 az2) = C := ⟨_, rfl⟩
    rw [hC] at hne HR
    have HC := Lib.hid hC
    clear hC
    go_enter Try.func19, Try.ntmps19
    have hb : Below ((w.alloc (.cells #[.int .i64 ak, .string (bs ax), .string (bs ay), .string (bs az), .int .i64 bk, .string (bs bx), .string (bs by'), .string (bs bz), .int .i64 ck, .string (bs cx), .string (bs cy), .string (bs cz)] 25)).alloc (.cells #[.int .i64 ak2, .string (bs ax2), .string (bs ay2), .string (bs az2), .int .i64 bk2, .string (bs bx2), .string (bs by2), .string (bs bz2), .int .i64 ck2, .string (bs cx2), .string (bs cy2), .string (bs cz2)] 25)).heap.size ((w.alloc (.cells #[.int .i64 ak, .string (bs ax), .string (bs ay), .string (bs az), .int .i64 bk, .string (bs bx), .string (bs by'), .string (bs bz), .int .i64 ck, .string (bs cx), .string (bs cy), .string (bs cz)] 25)).alloc (.cells #[.int .i64 ak2, .string (bs ax2), .string (bs ay2), .string (bs az2), .int .i64 bk2, .string (bs bx2), .string (bs by2), .string (bs bz2), .int .i64 ck2, .string (bs cx2), .string (bs cy2), .string (bs cz2)] 25)) ((w.alloc (.cells #[.int .i64 ak, .string (bs ax), .string (bs ay), .string (bs az), .int .i64 bk, .string (bs bx), .string (bs by'), .string (bs bz), .int .i64 ck, .string (bs cx), .string (bs cy), .string (bs cz)] 25)).alloc (.cells #[.int .i64 ak2, .string (bs ax2), .string (bs ay2), .string (bs az2), .int .i64 bk2, .string (bs bx2), .string (bs by2), .string (bs bz2), .int .i64 ck2, .string (bs cx2), .string (bs cy2), .string (bs cz2)] 25)) := Below.refl _ _
    go_wp2_with fail
    refine (rCompare_calls ak (bs ax) (bs ay) (bs az) ak2 (bs ax2) (bs ay2) (bs az2) _ HOK.out.1.1.1 HOK.out.1.1.2.1 HOK.out.1.1.2.2 HOK.out.2.1.1 HOK.out.2.1.2.1 HOK.out.2.1.2.2).mono ?_
    rintro e w7 ⟨rfl, hbv⟩
    simp only [bs_data]
    rw [HC.out]
    replace hb := (first_step hb hbv)
    clear hbv
    (try clear hc hf hz)
    obtain ⟨hc, hf⟩ := bcell hb
    have hz : w.heap.size + 1 < w7.heap.size := by have := hb.size; simp at this; omega
    go_wp2_with fail
    refine (rCompare_calls ak (bs ax) (bs ay) (bs az) ak2 (bs ax2) (bs ay2) (bs az2) _ HOK.out.1.1.1 HOK.out.1.1.2.1 HOK.out.1.1.2.2 HOK.out.2.1.1 HOK.out.2.1.2.1 HOK.out.2.1.2.2).mono ?_
    rintro e w8 ⟨rfl, hbv⟩
    simp only [bs_data]
    rw [HC.out]
    replace hb := (first_step hb hbv)
    clear hbv
    (try clear hc hf hz)
    obtain ⟨hc, hf⟩ := bcell hb
    have hz : w.heap.size + 1 < w8.heap.size := by have := hb.size; simp at this; omega
    go_wp2
    go_ret
    exact ⟨by rw [HR.out]; rfl, two_down hb⟩

end Go.Proofs.Ythdhoaihmlodjaa
