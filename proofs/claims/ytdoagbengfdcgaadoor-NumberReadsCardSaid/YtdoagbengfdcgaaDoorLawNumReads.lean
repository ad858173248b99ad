/- The number of any text is the document's, or there is none: the walk of the statement's function. -/
import Derived.Test.YtdoagbengfdcgaaDoorNumHelp
import Derived.Test.YtdoagbengfdcgaaDoorNumRefReadEmpty
import Derived.Test.YtdoagbengfdcgaaDoorNumRefReadMinus
import Derived.Test.YtdoagbengfdcgaaDoorNumRefReadPlus
import Derived.Test.YtdoagbengfdcgaaDoorNumRefReadBare
namespace Go.Proofs.YtdoagbengfdcgaaDoor
open Go.RowKit

theorem rRead_calls (s : ByteArray) (dec : Bool) (w : World) (hs : s.size ≤ maxLen) :
    Calls Tryd.prog 17 #[.string s, .bool dec] w fun e w' => e = .returned (NumL.ret (readL s.data.toList dec)) ∧ Below w.heap.size w w' := by
  unfold readL
  rw [← ref_read]
  rcases head_cases s with ⟨hz, e1, e2⟩ | ⟨h0, ⟨g1, e1, e2⟩ | ⟨g1, e1, e2⟩ | ⟨g1, g2, e1, e2⟩⟩
  · rw [e2]; exact rReadEmpty s dec w hs _ (by rw [e1]) hz
  · rw [e2]; exact rReadMinus s dec w hs _ (by rw [e1]) h0 (beq_iff_eq.2 g1)
  · rw [e2]; exact rReadPlus s dec w hs _ (by rw [e1]) h0 (beq_eq_false_iff_ne.2 (by omega)) (beq_iff_eq.2 g1)
  · rw [e2]; exact rReadBare s dec w hs _ (by rw [e1]) h0 (beq_eq_false_iff_ne.2 g1) (beq_eq_false_iff_ne.2 g2)
theorem readB_no {b : List UInt8} {sg : Int} {dec : Bool} (h : (readB b sg dec).2 = false) : readB b sg dec = (noNum, false) := by
  unfold readB at h ⊢
  split at h
  · rename_i k; rw [if_pos k]
  · rename_i k
    rw [if_neg k]
    split at h
    · rename_i k; rw [if_pos k]
    · rename_i k
      rw [if_neg k]
      split at h
      · rename_i k; rw [if_pos k]
      · rename_i k; rw [if_neg k]; exact madeL_false h

set_option maxRecDepth 100000 in
set_option maxHeartbeats 2000000 in
theorem numberReads_calls (s : ByteArray) (dec : Bool) (w : World) (hg : Good w) (hs : s.size ≤ maxLen) :
    Calls Tryd.prog 4 #[.string s, .bool dec] w fun e w' => e = .returned (.bool true) ∧ Below w.heap.size w w' := by
  have HP : Hid (∀ W, Good W → Calls Tryd.prog 16 #[.string s, .bool dec] W fun e w' => e = .returned (readRet (readL s.data.toList dec)) ∧ Below W.heap.size W w') := Lib.hid fun W hW => Read_calls s dec W hW hs
  have HR : Hid (∀ W, Calls Tryd.prog 17 #[.string s, .bool dec] W fun e w' => e = .returned (NumL.ret (readL s.data.toList dec)) ∧ Below W.heap.size W w') := Lib.hid fun W => rRead_calls s dec W hs
  have hn : (readL s.data.toList dec).2 = false → readL s.data.toList dec = (noNum, false) := readB_no
  generalize readL s.data.toList dec = p at HP HR hn
  obtain ⟨⟨X, Y, Z⟩, ok⟩ := p
  have G := hg
  have B := Below.refl w.heap.size w
  clear hg hs
  cases ok with
  | true =>
    clear hn
    go_enter Tryd.func4, Tryd.ntmps4
    go_wp2_with fail
    refine (HP.out _ ?_).mono ?_
    · exact G
    rintro e w1 ⟨rfl, hb⟩
    simp only [readRet, NumL.val]
    rw [show errZ true = 0 from rfl]
    replace G := (G).on hb
    replace B := bnext B hb
    clear hb
    go_wp2_with fail
    refine (HR.out _).mono ?_
    rintro e w2 ⟨rfl, hb⟩
    simp only [NumL.ret, NumL.val]
    replace G := (G.alloc _).on hb
    have E := (C3.fresh w1 _ _ _ _).on hb
    replace B := bbox B hb
    clear hb
    have E0 := E.c0; have E1 := E.c1; have E2 := E.c2; have E3 := E.lt
    go_wp2_with fail
    refine (same_yes _ _ _ _ _).mono ?_
    rintro e w3 ⟨rfl, hb⟩
    clear E0 E1 E2 E3
    replace E := (E.alloc _).on hb
    replace G := (G.alloc _).on hb
    have F := (C3.fresh w2 _ _ _ _).on hb
    replace B := bbox B hb
    clear hb
    have E0 := E.c0; have E1 := E.c1; have E2 := E.c2; have E3 := E.lt
    have F0 := F.c0; have F1 := F.c1; have F2 := F.c2; have F3 := F.lt
    go_wp2_with fail
    refine (awake_calls _ ?_).mono ?_
    · exact G
    rintro e w4 ⟨rfl, hb⟩
    clear E0 E1 E2 E3 F0 F1 F2 F3
    replace E := (E).on hb
    replace F := (F).on hb
    replace G := (G).on hb
    replace B := bnext B hb
    clear hb
    have E0 := E.c0; have E1 := E.c1; have E2 := E.c2; have E3 := E.lt
    have F0 := F.c0; have F1 := F.c1; have F2 := F.c2; have F3 := F.lt
    go_wp2
    go_ret
    exact ⟨rfl, B⟩
  | false =>
    have e := hn rfl
    simp only [noNum, Prod.mk.injEq, NumL.mk.injEq, and_true] at e
    obtain ⟨rfl, rfl, rfl⟩ := e
    clear hn
    go_enter Tryd.func4, Tryd.ntmps4
    go_wp2_with fail
    refine (HP.out _ ?_).mono ?_
    · exact G
    rintro e w1 ⟨rfl, hb⟩
    simp only [readRet, NumL.val]
    rw [show errZ false = 2 from rfl]
    replace G := (G).on hb
    replace B := bnext B hb
    clear hb
    go_wp2_with fail
    refine (HR.out _).mono ?_
    rintro e w2 ⟨rfl, hb⟩
    simp only [NumL.ret, NumL.val]
    replace G := (G.alloc _).on hb
    have E := (C3.fresh w1 _ _ _ _).on hb
    replace B := bbox B hb
    clear hb
    have E0 := E.c0; have E1 := E.c1; have E2 := E.c2; have E3 := E.lt
    go_wp2_with fail
    refine (same_no _ _).mono ?_
    rintro e w3 ⟨rfl, hb⟩
    clear E0 E1 E2 E3
    replace E := (E.alloc _).on hb
    replace G := (G.alloc _).on hb
    have F := (C3.fresh w2 _ _ _ _).on hb
    replace B := bbox B hb
    clear hb
    have E0 := E.c0; have E1 := E.c1; have E2 := E.c2; have E3 := E.lt
    have F0 := F.c0; have F1 := F.c1; have F2 := F.c2; have F3 := F.lt
    go_wp2_with fail
    refine (awake_calls _ ?_).mono ?_
    · exact G
    rintro e w4 ⟨rfl, hb⟩
    clear E0 E1 E2 E3 F0 F1 F2 F3
    replace E := (E).on hb
    replace F := (F).on hb
    replace G := (G).on hb
    replace B := bnext B hb
    clear hb
    have E0 := E.c0; have E1 := E.c1; have E2 := E.c2; have E3 := E.lt
    have F0 := F.c0; have F1 := F.c1; have F2 := F.c2; have F3 := F.lt
    go_wp2
    go_ret
    exact ⟨rfl, B⟩

end Go.Proofs.YtdoagbengfdcgaaDoor
