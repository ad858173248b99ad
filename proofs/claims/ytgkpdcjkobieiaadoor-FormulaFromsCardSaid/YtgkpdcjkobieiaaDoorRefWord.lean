/- The word that a text begins with, by the document's own answer: the same as package lex's, for every text that isn't empty (but for what it says where there is none). -/
import Derived.Test.YtgkpdcjkobieiaaDoorRefSign
import Derived.Test.YtgkpdcjkobieiaaDoorRefRead
namespace Go.Proofs.YtgkpdcjkobieiaaDoor
open Go.RowKit

def rwordS (l : List UInt8) : TokL × Nat := if (wordS l).2 = 0 then (⟨5, [], noTerm, 0⟩, 0) else wordS l
def RWordT (w : World) (l : List UInt8) (e : Ending) (w' : World) : Prop := e = .returned (.tuple #[(rwordS l).1.v, .int .i64 (rwordS l).2]) ∧ Below w.heap.size w w'
theorem rword_var {l : List UInt8} (h : 0 < (prefixS l).2) (hk : (prefixS l).1.k = 4) : rwordS l = (⟨2, (prefixS l).1.x, noTerm, 0⟩, (prefixS l).2) := by
  unfold rwordS; rw [word_term h]; unfold termTok; rw [if_pos hk]; exact if_neg (by omega)
theorem rword_term {l : List UInt8} (h : 0 < (prefixS l).2) (hk : ¬ (prefixS l).1.k = 4) : rwordS l = (⟨3, [], (prefixS l).1, 0⟩, (prefixS l).2) := by
  unfold rwordS; rw [word_term h]; unfold termTok; rw [if_neg hk]; exact if_neg (by omega)
theorem rword_letters {l : List UInt8} (h : ¬ 0 < (prefixS l).2) (h2 : 0 < letterLead l) : rwordS l = (⟨1, l.take (letterLead l), noTerm, 0⟩, letterLead l) := by
  unfold rwordS; rw [word_letters h h2]; exact if_neg (by omega)
theorem rword_dec {l : List UInt8} (h : ¬ 0 < (prefixS l).2) (h2 : ¬ 0 < letterLead l) (h3 : 0 < digitLead l) (h4 : Lib.hasPrefix (l.drop (digitLead l)) [46] = true) (h5 : 0 < digitLead (l.drop (digitLead l + 1))) :
    rwordS l = (⟨3, [], ⟨2, l.take (digitLead l + 1 + digitLead (l.drop (digitLead l + 1))), decT, []⟩, 0⟩, digitLead l + 1 + digitLead (l.drop (digitLead l + 1))) := by
  have hp : placesS (l.drop (digitLead l)) = digitLead (l.drop (digitLead l + 1)) + 1 := by
    unfold placesS; rw [List.drop_drop]; exact if_pos ⟨h4, h5⟩
  unfold rwordS; rw [word_digits h h2 h3]; unfold digitsS; rw [hp, if_pos (by omega : 0 < digitLead (l.drop (digitLead l + 1)) + 1)]
  rw [if_neg (by dsimp only; omega), show digitLead l + (digitLead (l.drop (digitLead l + 1)) + 1) = digitLead l + 1 + digitLead (l.drop (digitLead l + 1)) by omega]
theorem rword_num {l : List UInt8} (h : ¬ 0 < (prefixS l).2) (h2 : ¬ 0 < letterLead l) (h3 : 0 < digitLead l) (h4 : ¬ (Lib.hasPrefix (l.drop (digitLead l)) [46] = true ∧ 0 < digitLead (l.drop (digitLead l + 1)))) :
    rwordS l = (⟨4, l.take (digitLead l), noTerm, 0⟩, digitLead l) := by
  have hp : placesS (l.drop (digitLead l)) = 0 := by
    unfold placesS; rw [List.drop_drop]; exact if_neg h4
  unfold rwordS; rw [word_digits h h2 h3]; unfold digitsS; rw [hp, if_neg (by omega : ¬ 0 < 0)]
  exact if_neg (by dsimp only; omega)
theorem rword_sign {l : List UInt8} (h : ¬ 0 < (prefixS l).2) (h2 : ¬ 0 < letterLead l) (h3 : ¬ 0 < digitLead l) : rwordS l = (⟨5, l.take (signN l), noTerm, 0⟩, signN l) := by
  have hw : wordS l = signS l := by unfold wordS; rw [if_neg h, if_neg h2, if_neg h3]
  unfold rwordS; rw [hw]; unfold signS
  by_cases h0 : signN l = 0
  · rw [if_pos h0, h0]; rfl
  · rw [if_neg h0]; exact if_neg h0

theorem byte46 (s : ByteArray) (d : Nat) (h : d < s.size) : Lib.hasPrefix (s.data.toList.drop d) [46] = decide ((s[d].toNat : Int) = 46) := by
  rw [stop_ahead _ _ (by rw [← Lib.size_eq]; exact h), get_list s d h]

set_option maxRecDepth 100000 in
set_option maxHeartbeats 8000000 in
theorem rword_calls (s : ByteArray) (w : World) (hs : s.size ≤ 281474976710656) (h1 : 1 ≤ s.size) : Calls Tryd.prog 35 #[.string s] w (RWordT w s.data.toList) := by
  have hle : (prefixS s.data.toList).2 ≤ s.size := by rw [Lib.size_eq]; exact prefix_le _
  have hll : letterLead s.data.toList ≤ s.size := by rw [Lib.size_eq]; exact lead_le _ 0 _
  have hdl : digitLead s.data.toList ≤ s.size := by rw [Lib.size_eq]; exact lead_le _ 0 _
  have hw0 := @rword_var s.data.toList
  have hw1 := @rword_term s.data.toList
  have hw2 := @rword_letters s.data.toList
  have hw3 := @rword_dec s.data.toList
  have hw4 := @rword_num s.data.toList
  have hw5 := @rword_sign s.data.toList
  have hsn := signN_le s.data.toList
  have hfl : digitLead (s.data.toList.drop (digitLead s.data.toList + 1)) ≤ s.size - (digitLead s.data.toList + 1) := lead_le_size _ s _
  have hR1 : Hid (∀ W, Calls Tryd.prog 23 #[.string s, .int .i64 0, .int .i64 2] W fun e w' => e = .returned (.int .i64 (letterLead s.data.toList)) ∧ w' = W) := Lib.hid fun W => rRun2_calls s 0 W hs (by omega)
  have hR2 : Hid (∀ W, Calls Tryd.prog 23 #[.string s, .int .i64 0, .int .i64 3] W fun e w' => e = .returned (.int .i64 (digitLead s.data.toList)) ∧ w' = W) := Lib.hid fun W => rRun3_calls s 0 W hs (by omega)
  have hR3 : digitLead s.data.toList ≤ s.size → Hid (∀ W, Calls Tryd.prog 23 #[.string s, .int .i64 ((digitLead s.data.toList : Int) + 1), .int .i64 3] W fun e w' => e = .returned (.int .i64 (digitLead (s.data.toList.drop (digitLead s.data.toList + 1)))) ∧ w' = W) := fun h => Lib.hid fun W => by
    have := rRun3_calls s (digitLead s.data.toList + 1) W hs (by omega)
    rw [show ((digitLead s.data.toList + 1 : Nat) : Int) = (digitLead s.data.toList : Int) + 1 by omega] at this
    exact this
  replace hR3 := hR3 hdl
  rw [← Lib.size_eq] at hsn
  obtain ⟨q, hq⟩ : ∃ q, prefixS s.data.toList = q := ⟨_, rfl⟩
  obtain ⟨m, hm⟩ : ∃ m, letterLead s.data.toList = m := ⟨_, rfl⟩
  obtain ⟨d, hd⟩ : ∃ d, digitLead s.data.toList = d := ⟨_, rfl⟩
  obtain ⟨g, hg⟩ : ∃ g, signN s.data.toList = g := ⟨_, rfl⟩
  rw [hq] at hle hw0 hw1 hw2 hw3 hw4 hw5
  rw [hm] at hll hw2 hw3 hw4 hw5 hR1
  rw [hd] at hdl hw3 hw4 hw5 hR2 hR3 hfl
  rw [hg] at hw5 hsn
  have h46 : ∀ h : d < s.size, _ := byte46 s d
  have h46n : s.size ≤ d → Lib.hasPrefix (s.data.toList.drop d) [46] = false := fun h => stop_none _ _ (by rw [← Lib.size_eq]; exact h)
  obtain ⟨f, hf⟩ : ∃ f, digitLead (s.data.toList.drop (d + 1)) = f := ⟨_, rfl⟩
  rw [hf] at hw3 hw4 hR3 hfl
  obtain ⟨⟨k, x, y, z⟩, n⟩ := q
  dsimp only at hle hw0 hw1 hw2 hw3 hw4 hw5
  have HQ := Lib.hid hq
  have HG := Lib.hid hg
  have HW0 := Lib.hid hw0
  have HW1 := Lib.hid hw1
  have HW2 := Lib.hid hw2
  have HW3 := Lib.hid hw3
  have HW4 := Lib.hid hw4
  have HW5 := Lib.hid hw5
  have H46 := Lib.hid h46
  have H46N := Lib.hid h46n
  clear hq hm hd hg hf hw0 hw1 hw2 hw3 hw4 hw5 h46 h46n
  go_enter Tryd.func35, Tryd.ntmps35
  go_wp2_with fail
  refine (rPrefix_calls s _ hs).mono ?_
  rintro e w1 ⟨rfl, hb1⟩
  rw [HQ.out]
  simp only [TermL.v]
  have hB1 := blk_on (blk_new w 35 zero7) hb1 (by rw [World.size_alloc]; exact Nat.lt_succ_self _)
  have hb1' := one_box hb1
  have hz1 : w.heap.size < w1.heap.size := blk_lt hB1
  have hzz := hz1
  have HBB := Lib.hid hb1'
  clear hb1 hb1'
  obtain ⟨q0, q1, q2, q3, q4, q5, q6⟩ := blk_cells7 hB1
  have fr := fun i => blk_free hB1 i
  clear hB1
  by_cases h0 : 0 < n
  · have g0 : (0 : Int) < (n : Int) := by omega
    by_cases hk : k = 4
    · have HS := Lib.hid (HW0.out h0 hk)
      subst hk
      clear HW0 HW1 HW2 HW3 HW4 HW5
      go_wp2
      refine bodyPost_ret (v := .tuple #[.agg #[.int .i64 2, .string (bs x), .int .i64 0, .string ⟨#[]⟩, .string ⟨#[]⟩, .string ⟨#[]⟩, .int .i64 0], .int .i64 n]) (by simp [results, Tryd.results35, q0, q1, q2, q3, q4, q5, q6, hzz, World.cell?_alloc_lt, go_sem]) rfl ⟨by rw [HS.out]; rfl, ?_⟩
      repeat (with_reducible (first | exact HBB.out | refine Below.setCell ?_ (by first | exact Nat.le_refl _ | omega | (simp; omega)) _ | refine Below.alloc ?_ (by first | omega | (simp; omega)) _))
    · have HS := Lib.hid (HW1.out h0 hk)
      have gk : (k == 4) = false := beq_eq_false_iff_ne.2 hk
      clear HW0 HW1 HW2 HW3 HW4 HW5
      go_wp2
      refine bodyPost_ret (v := .tuple #[.agg #[.int .i64 3, .string ⟨#[]⟩, .int .i64 k, .string (bs x), .string (bs y), .string (bs z), .int .i64 0], .int .i64 n]) (by simp [results, Tryd.results35, q0, q1, q2, q3, q4, q5, q6, hzz, World.cell?_alloc_lt, go_sem]) rfl ⟨by rw [HS.out]; rfl, ?_⟩
      repeat (with_reducible (first | exact HBB.out | refine Below.setCell ?_ (by first | exact Nat.le_refl _ | omega | (simp; omega)) _ | refine Below.alloc ?_ (by first | omega | (simp; omega)) _))
  · have HW := Lib.hid h0
    have g0 : ¬ (0 : Int) < (n : Int) := by omega
    clear HW0 HW1 h0
    go_wp2_with fail
    refine (hR1.out _).mono ?_
    rintro e w2 ⟨rfl, hw2⟩
    obtain rfl := hw2.symm
    clear hw2
    by_cases hm0 : 0 < m
    · have HS := Lib.hid (HW2.out HW.out hm0)
      have hpb := piece_bs s 0 m
      rw [List.drop_zero, Nat.sub_zero] at hpb
      have HPB := Lib.hid hpb
      clear hpb
      go_wp2
      refine bodyPost_ret (v := .tuple #[.agg #[.int .i64 1, .string (s.extract 0 m), .int .i64 0, .string ⟨#[]⟩, .string ⟨#[]⟩, .string ⟨#[]⟩, .int .i64 0], .int .i64 m]) (by simp [results, Tryd.results35, q0, q1, q2, q3, q4, q5, q6, hzz, World.cell?_alloc_lt, go_sem]) rfl ⟨by rw [HS.out, HPB.out]; rfl, ?_⟩
      repeat (with_reducible (first | exact HBB.out | refine Below.setCell ?_ (by first | exact Nat.le_refl _ | omega | (simp; omega)) _ | refine Below.alloc ?_ (by first | omega | (simp; omega)) _))
    · have HW' := Lib.hid hm0
      have g1 : ¬ (0 : Int) < (m : Int) := by omega
      clear hm0 HW2
      go_wp2_with fail
      refine (hR2.out _).mono ?_
      rintro e w2 ⟨rfl, hw2⟩
      obtain rfl := hw2.symm
      clear hw2
      by_cases hd0 : 0 < d
      · have HD0 := Lib.hid hd0
        have gd : (0 : Int) < (d : Int) := by omega
        have gs : (d : Int) + 1 + (f : Int) = ((d + 1 + f : Nat) : Int) := by omega
        have GS := Lib.hid gs
        clear gs
        have hyes : Hid (Lib.hasPrefix (s.data.toList.drop d) [46] = true) → 0 < f → rwordS s.data.toList = _ := fun a b => HW3.out HW.out HW'.out hd0 a.out b
        have HY := Lib.hid hyes
        have hnot : ¬ (Lib.hasPrefix (s.data.toList.drop d) [46] = true ∧ 0 < f) → rwordS s.data.toList = _ := fun a => HW4.out HW.out HW'.out hd0 a
        have HN := Lib.hid hnot
        clear hyes hnot HW3 HW4 HW5
        have hpb := piece_bs s 0 d
        rw [List.drop_zero, Nat.sub_zero] at hpb
        have HPB := Lib.hid hpb
        have hpb2 := piece_bs s 0 (d + 1 + f)
        rw [List.drop_zero, Nat.sub_zero] at hpb2
        have HPB2 := Lib.hid hpb2
        clear hpb hpb2
        by_cases hds : d < s.size
        · by_cases e46 : (s[d].toNat : Int) = 46
          · have gb : ((s[d].toNat : Int) == 46) = true := beq_iff_eq.2 e46
            have HP := Lib.hid ((H46.out hds).trans (decide_eq_true e46))
            clear e46
            by_cases hf0 : 0 < f
            · have HS := Lib.hid (HY.out HP hf0)
              have gf : (0 : Int) < (f : Int) := by omega
              have gsz : (d : Int) + 1 + (f : Int) ≤ (s.size : Int) := by omega
              go_wp2_with (go_at_call 23; refine (hR3.out _).mono ?_; rintro e w2 ⟨rfl, hw2⟩; obtain rfl := hw2.symm; clear hw2)
              refine bodyPost_ret (v := .tuple #[.agg #[.int .i64 3, .string ⟨#[]⟩, .int .i64 2, .string (s.extract 0 (d + 1 + f)), .string (bs decT), .string ⟨#[]⟩, .int .i64 0], .int .i64 ((d : Int) + 1 + (f : Int))]) (by simp [results, Tryd.results35, q0, q1, q2, q3, q4, q5, q6, hzz, World.cell?_alloc_lt, go_sem]; rfl) rfl ⟨by rw [HS.out, HPB2.out, GS.out]; rfl, ?_⟩
              repeat (with_reducible (first | exact HBB.out | refine Below.setCell ?_ (by first | exact Nat.le_refl _ | omega | (simp; omega)) _ | refine Below.alloc ?_ (by first | omega | (simp; omega)) _))
            · have HS := Lib.hid (HN.out (fun c => hf0 c.2))
              have gf : ¬ (0 : Int) < (f : Int) := by omega
              go_wp2_with (go_at_call 23; refine (hR3.out _).mono ?_; rintro e w2 ⟨rfl, hw2⟩; obtain rfl := hw2.symm; clear hw2)
              refine bodyPost_ret (v := .tuple #[.agg #[.int .i64 4, .string (s.extract 0 d), .int .i64 0, .string ⟨#[]⟩, .string ⟨#[]⟩, .string ⟨#[]⟩, .int .i64 0], .int .i64 d]) (by simp [results, Tryd.results35, q0, q1, q2, q3, q4, q5, q6, hzz, World.cell?_alloc_lt, go_sem]) rfl ⟨by rw [HS.out, HPB.out]; rfl, ?_⟩
              repeat (with_reducible (first | exact HBB.out | refine Below.setCell ?_ (by first | exact Nat.le_refl _ | omega | (simp; omega)) _ | refine Below.alloc ?_ (by first | omega | (simp; omega)) _))
          · have gb : ((s[d].toNat : Int) == 46) = false := beq_eq_false_iff_ne.2 e46
            have HS := Lib.hid (HN.out (fun c => by have h := (H46.out hds).symm.trans c.1; simp at h; exact e46 (by omega)))
            clear e46
            go_wp2
            refine bodyPost_ret (v := .tuple #[.agg #[.int .i64 4, .string (s.extract 0 d), .int .i64 0, .string ⟨#[]⟩, .string ⟨#[]⟩, .string ⟨#[]⟩, .int .i64 0], .int .i64 d]) (by simp [results, Tryd.results35, q0, q1, q2, q3, q4, q5, q6, hzz, World.cell?_alloc_lt, go_sem]) rfl ⟨by rw [HS.out, HPB.out]; rfl, ?_⟩
            repeat (with_reducible (first | exact HBB.out | refine Below.setCell ?_ (by first | exact Nat.le_refl _ | omega | (simp; omega)) _ | refine Below.alloc ?_ (by first | omega | (simp; omega)) _))
        · have HS := Lib.hid (HN.out (fun c => by rw [H46N.out (by omega)] at c; cases c.1))
          have gds : ¬ (d : Int) < (s.size : Int) := by omega
          go_wp2
          refine bodyPost_ret (v := .tuple #[.agg #[.int .i64 4, .string (s.extract 0 d), .int .i64 0, .string ⟨#[]⟩, .string ⟨#[]⟩, .string ⟨#[]⟩, .int .i64 0], .int .i64 d]) (by simp [results, Tryd.results35, q0, q1, q2, q3, q4, q5, q6, hzz, World.cell?_alloc_lt, go_sem]) rfl ⟨by rw [HS.out, HPB.out]; rfl, ?_⟩
          repeat (with_reducible (first | exact HBB.out | refine Below.setCell ?_ (by first | exact Nat.le_refl _ | omega | (simp; omega)) _ | refine Below.alloc ?_ (by first | omega | (simp; omega)) _))
      · have HS := Lib.hid (HW5.out HW.out HW'.out hd0)
        have g2 : ¬ (0 : Int) < (d : Int) := by omega
        clear hd0 HW3 HW4 HW5
        have hpb := piece_bs s 0 g
        rw [List.drop_zero, Nat.sub_zero] at hpb
        have HPB := Lib.hid hpb
        clear hpb
        go_wp2_with fail
        refine (rsign_calls s _ hs h1).mono ?_
        rintro e w2 ⟨rfl, hw2⟩
        obtain rfl := hw2.symm
        clear hw2
        rw [HG.out]
        go_wp2
        refine bodyPost_ret (v := .tuple #[.agg #[.int .i64 5, .string (s.extract 0 g), .int .i64 0, .string ⟨#[]⟩, .string ⟨#[]⟩, .string ⟨#[]⟩, .int .i64 0], .int .i64 g]) (by simp [results, Tryd.results35, q0, q1, q2, q3, q4, q5, q6, hzz, World.cell?_alloc_lt, go_sem]) rfl ⟨by rw [HS.out, HPB.out]; rfl, ?_⟩
        repeat (with_reducible (first | exact HBB.out | refine Below.setCell ?_ (by first | exact Nat.le_refl _ | omega | (simp; omega)) _ | refine Below.alloc ?_ (by first | omega | (simp; omega)) _))

end Go.Proofs.YtgkpdcjkobieiaaDoor
