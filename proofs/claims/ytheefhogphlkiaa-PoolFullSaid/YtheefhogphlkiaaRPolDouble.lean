/- The document's Double. -/
import Derived.Test.YtheefhogphlkiaaRPolTake
namespace Go.Proofs.Ytheefhogphlkiaa
open Go.RowKit

set_option maxRecDepth 100000 in
set_option maxHeartbeats 1000000 in
theorem rDouble_calls (B : Nat) (x : Value) (L : List MsgL) (i : Int) (w : World) (h : Own w B x L) (hB : B ≤ w.heap.size) (hok : OkL L) :
    Calls Try.prog 25 #[x, .int .i64 i] w (RSendT B x (dblE L i) (dblL L i) w) := by
  have H := Lib.hid h
  obtain ⟨N, hN⟩ : ∃ N, L.length = N := ⟨_, rfl⟩
  by_cases hi : inB L.length i = true
  · obtain ⟨e2, e1⟩ := dbl_send hok hi
    rw [e1, e2]
    obtain ⟨j1, j2⟩ := in_lt hi
    obtain ⟨k, hk⟩ : ∃ k, i.toNat = k := ⟨_, rfl⟩
    rw [hk] at j1 j2 ⊢
    subst j2
    obtain ⟨va, cap, rfl, hcap, hmax, hrow⟩ := own_open h
    obtain ⟨g, rfl, hgB, hgl, hm⟩ := hrow (by omega)
    have hc := hm k j1
    rw [show L.getD k noMsg = L[k] by rw [List.getD_eq_getElem?_getD, List.getElem?_eq_getElem j1]; rfl]
    generalize L[k] = m at hc ⊢
    have HS := Lib.hid (rSend_calls B _ L m w h hB hok.2)
    obtain ⟨f, t, b⟩ := m
    obtain ⟨d0, d1, d2⟩ := hc
    rw [hN] at j1 hcap HS ⊢
    have g1 : ¬ (k : Int) < 0 := by omega
    have g2 : ¬ (N : Int) ≤ (k : Int) := by omega
    have g3 : (0 : Int) ≤ (k : Int) := by omega
    have g5 : (k : Int) < (N : Int) := by omega
    generalize sendE L ⟨f, t, b⟩ = E at HS ⊢
    generalize sendL L ⟨f, t, b⟩ = R at HS ⊢
    clear hi hk e1 e2 hm hrow hN h hB hok j1
    go_enter Try.func25, Try.ntmps25
    go_wp2_with fail
    refine HS.out.mono ?_
    rintro e W2 ⟨x', rfl, hn⟩
    have HNR := Lib.hid hn
    clear hn d0 d1 d2
    go_wp2
    go_ret2
    exact ⟨x', rfl, HNR.out⟩
  · have e1 : dblE L i = 4 := by unfold dblE; rw [if_neg hi]
    have e2 : dblL L i = L := by unfold dblL; rw [if_neg hi]
    rw [e1, e2]
    have hf : inB N i = false := by rw [← hN]; simpa using hi
    obtain ⟨va, cap, rfl⟩ := own_slice h
    rw [hN] at H ⊢
    clear hN h hB e1 e2 hi hok
    by_cases g1 : i < 0
    · clear hf
      go_enter Try.func25, Try.ntmps25
      go_wp2
      go_ret2
      exact ⟨_, rfl, H.out, .inl rfl, Below.refl _ _⟩
    · have g2 : (N : Int) ≤ i := by
        have := of_decide_eq_false hf
        omega
      clear hf
      go_enter Try.func25, Try.ntmps25
      go_wp2
      go_ret2
      exact ⟨_, rfl, H.out, .inl rfl, Below.refl _ _⟩

end Go.Proofs.Ytheefhogphlkiaa
