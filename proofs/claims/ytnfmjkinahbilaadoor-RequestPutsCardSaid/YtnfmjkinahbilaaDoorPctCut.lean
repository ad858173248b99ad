/- A text cut at the first byte of a kind: strings.Cut with a separator of one byte, for every text. -/
import Derived.Test.YtnfmjkinahbilaaDoorPctBuf
import Derived.Lib.Bytealg
namespace Go.Proofs.YtnfmjkinahbilaaDoor
open Go.RowKit

def CutYes (x : UInt8) (l : List UInt8) : Prop := Lib.indexByte l x = (cutA x l).length ∧ (cutA x l).length < l.length ∧ l.take (cutA x l).length = cutA x l ∧ l.drop ((cutA x l).length + 1) = cutB x l
def CutNo (x : UInt8) (l : List UInt8) : Prop := Lib.indexByte l x = -1 ∧ cutA x l = l ∧ cutB x l = []
theorem cut_cases (x : UInt8) (l : List UInt8) : (cutI x l = true ∧ CutYes x l) ∨ (cutI x l = false ∧ CutNo x l) := by
  unfold CutYes CutNo
  induction l with
  | nil => right; simp [cutI, Lib.indexByte, cutA, cutB]
  | cons c r ih =>
    by_cases hc : c = x
    · left; simp [cutI, Lib.indexByte, cutA, cutB, hc]
    · have hb : (c == x) = false := by simpa using hc
      have hi : cutI x (c :: r) = cutI x r := by simp [cutI, hc]
      rw [hi]
      rcases ih with ⟨h, h1, h2, h3, h4⟩ | ⟨h, h1, h2, h3⟩
      · left
        refine ⟨h, ?_, ?_, ?_, ?_⟩
        · simp only [Lib.indexByte, hb, cutA, hc, h1]
          have : (((cutA x r).length : Int) == -1) = false := beq_eq_false_iff_ne.2 (by omega)
          simp [this]
        · simp [cutA, hc, h2]
        · simp [cutA, hc, h3]
        · simp [cutA, cutB, hc, h4]
      · right
        refine ⟨h, ?_, ?_, ?_⟩
        · simp [Lib.indexByte, hb, h1]
        · simp [cutA, hc, h2]
        · simp [cutB, hc, h3]

set_option maxRecDepth 100000 in
set_option maxHeartbeats 1000000 in
theorem liteCut_calls (x : UInt8) (s : ByteArray) (w : World) (_hs : s.size ≤ maxLen) :
    Calls Tryd.prog 37 #[.string s, .string ⟨#[x]⟩] w fun e w' => e = .returned (.tuple #[.string (bs (cutA x s.data.toList)), .string (bs (cutB x s.data.toList)), .bool (cutI x s.data.toList)]) ∧ ∃ n, w' = w.drewN n := by
  unfold maxLen at _hs
  have HI : Hid (∀ W, Calls Tryd.prog 46 #[.string s, .string ⟨#[x]⟩] W fun e w' => e = .returned (.int .i64 (Lib.indexByte s.data.toList x)) ∧ w' = W) := Lib.hid fun W => Tryd.stringslite_Index_one s x W
  rcases cut_cases x s.data.toList with ⟨h, h1, h2, h3, h4⟩ | ⟨h, h1, h2, h3⟩
  · rw [h1] at HI
    rw [h, ← h3, ← h4]
    rw [← Lib.size_eq] at h2
    generalize (cutA x s.data.toList).length = i at HI h2 ⊢
    have c1 : (0 : Int) ≤ (i : Int) := by omega
    have c2 : (i : Int) ≤ (s.size : Int) := by omega
    have c3 : (0 : Int) ≤ (i : Int) + 1 := by omega
    have c4 : (i : Int) + 1 ≤ (s.size : Int) := by omega
    have e1 : s.extract 0 i = bs (List.take i s.data.toList) := by rw [piece_bs]; rfl
    have e2 : s.extract (i + 1) s.size = bs (List.drop (i + 1) s.data.toList) := drop_bs s (i + 1)
    have E1 := Lib.hid e1
    have E2 := Lib.hid e2
    clear h h1 h3 h4 e1 e2
    go_enter Tryd.func37, Tryd.ntmps37
    go_wp2_with (go_at_call 46; refine (HI.out _).mono ?_; rintro e w' ⟨rfl, rfl⟩)
    go_region
    go_wp2
    go_ret3
    exact ⟨by rw [← E1.out, ← E2.out]; rfl, 1, rfl⟩
  · rw [h1] at HI
    have H1 := Lib.hid (show bs (cutA x s.data.toList) = s by rw [h2]; rfl)
    have H2 := Lib.hid (show bs (cutB x s.data.toList) = ⟨#[]⟩ by rw [h3]; rfl)
    have H3 := Lib.hid h
    clear h h1 h2 h3
    go_enter Tryd.func37, Tryd.ntmps37
    go_wp2_with (go_at_call 46; refine (HI.out _).mono ?_; rintro e w' ⟨rfl, rfl⟩)
    go_ret3
    exact ⟨by rw [H1.out, H2.out, H3.out]; rfl, 0, rfl⟩

set_option maxHeartbeats 400000 in
theorem cut_calls (x : UInt8) (s : ByteArray) (w : World) (hs : s.size ≤ maxLen) :
    Calls Tryd.prog 25 #[.string s, .string ⟨#[x]⟩] w fun e w' => e = .returned (.tuple #[.string (bs (cutA x s.data.toList)), .string (bs (cutB x s.data.toList)), .bool (cutI x s.data.toList)]) ∧ Below w.heap.size w w' := by
  go_enter Tryd.func25, Tryd.ntmps25
  go_wp2_with (go_at_call 37; refine (liteCut_calls _ _ _ hs).mono ?_; rintro e w' ⟨rfl, n, rfl⟩)
  go_ret3
  exact ⟨rfl, drewN_below (Below.refl _ _) n⟩

end Go.Proofs.YtnfmjkinahbilaaDoor
