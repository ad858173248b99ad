/- Which tables and patterns are right, by the program. -/
import Derived.Test.YtiliobfgmelncaaScopeIdx
import Derived.Test.YtiliobfgmelncaaRefTable
import Derived.Test.YtiliobfgmelncaaTripRight
import Derived.Shelf.Abstract
namespace Go.Proofs.Ytiliobfgmelncaa
open Go.RowKit Go.Shelf

theorem conA_calls (L : List (List UInt8)) (x : List UInt8) (g o n c : Nat) (w : World) (h : TxtA w (some ⟨g, o, none⟩) n c L) :
    Calls Try.prog 42 #[.slice (some ⟨g, o, none⟩) n c, .string (bs x)] w fun e w' => e = .returned (.bool (decide (x ∈ L))) ∧ w' = w := by
  by_cases h0 : n = 0
  · subst h0
    have hl : L = [] := List.eq_nil_of_length_eq_zero h.len
    subst hl
    refine (Try.slices_Contains_string_empty (some ⟨g, o, none⟩) c (bs x) w).mono ?_
    rintro e w' ⟨rfl, hw⟩
    exact ⟨by simp, hw⟩
  · obtain ⟨g', o', he, _, hc⟩ := h.cells (by omega)
    cases he
    have hm := h.most
    have hcp := h.cap
    unfold maxLen at hm
    refine (Try.slices_Contains_string g o n c (L.map bs) (bs x) w (by rw [List.length_map, h.len]; exact Nat.le_refl _) (by omega) (fun j hj => ?_)).mono ?_
    · rw [List.length_map] at hj
      rw [hc j hj, List.getD_eq_getElem?_getD, List.getElem?_map, List.getElem?_eq_getElem hj]; rfl
    · rintro e w' ⟨rfl, hw⟩
      refine ⟨?_, hw⟩
      have : Lib.containsS ((L.map bs).take n) (bs x) = decide (x ∈ L) := by
        rw [List.take_of_length_le (by rw [List.length_map, h.len]; exact Nat.le_refl _), Bool.eq_iff_iff, Lib.containsS_iff, decide_eq_true_eq, List.mem_map]
        exact ⟨fun ⟨y, hy, e⟩ => by
          have : y = x := by have := congrArg (fun b : ByteArray => b.data.toList) e; simpa [bs] using this
          rw [← this]; exact hy, fun hx => ⟨x, hx, rfl⟩⟩
      rw [this]

theorem value_kinds (t : TermL) : valueZ t = false ∧ t.k = 3 ∨ valueZ t = false ∧ t.k = 4 ∨ (¬ t.k = 3 ∧ ¬ t.k = 4 ∧ valueZ t = rightL t.k t.x t.y t.z) := by
  unfold valueZ
  by_cases h3 : t.k = 3
  · exact .inl ⟨by rw [h3]; simp, h3⟩
  by_cases h4 : t.k = 4
  · exact .inr (.inl ⟨by rw [h4]; simp, h4⟩)
  refine .inr (.inr ⟨h3, h4, ?_⟩)
  by_cases h0 : t.k = 0
  · rw [h0]; simp
  by_cases h1 : t.k = 1
  · rw [h1]; simp
  by_cases h2 : t.k = 2
  · rw [h2]; simp
  · rw [decide_eq_false h0, decide_eq_false h1, decide_eq_false h2]
    unfold rightL
    rw [if_neg h1, if_neg (by omega), if_neg h2, decide_eq_false h0]; simp

set_option maxRecDepth 100000 in
set_option maxHeartbeats 2000000 in
theorem cells1_calls (t : TermL) (ht : t.ok) (w : World) : Calls Try.prog 65 #[t.v] w fun e w' => e = .returned (.bool (!valueZ t)) ∧ Below w.heap.size w w' := by
  have HT := Lib.hid ht
  clear ht
  have hk := value_kinds t
  obtain ⟨k, x, y, z⟩ := t
  simp only [TermL.v]
  dsimp only at hk
  rcases hk with ⟨hv, rfl⟩ | ⟨hv, rfl⟩ | ⟨h3, h4, hv⟩
  · have HV := Lib.hid hv
    clear hv
    go_enter Try.func65, Try.ntmps65
    go_wp2
    go_ret
    exact ⟨by rw [HV.out]; rfl, box_below _ _⟩
  · have HV := Lib.hid hv
    clear hv
    go_enter Try.func65, Try.ntmps65
    go_wp2
    go_ret
    exact ⟨by rw [HV.out]; rfl, box_below _ _⟩
  · have g3 : (k == 3) = false := beq_eq_false_iff_ne.2 h3
    have g4 : (k == 4) = false := beq_eq_false_iff_ne.2 h4
    have HC := Lib.hid (fun W => Check_calls k (bs x) (bs y) (bs z) W HT.out.1 HT.out.2.1 HT.out.2.2)
    simp only [bs_data] at HC
    have HV := Lib.hid hv
    cases hr : rightL k x y z with
    | true =>
      rw [hr] at HC HV
      have e0 : formZ true = 0 := rfl
      rw [e0] at HC
      clear hv hr h3 h4 e0
      go_enter Try.func65, Try.ntmps65
      go_wp2_with fail
      refine (HC.out _).mono ?_
      rintro e w1 ⟨rfl, hb1⟩
      have HB := Lib.hid (one_box hb1)
      clear hb1
      go_wp2
      go_ret
      exact ⟨by rw [HV.out]; rfl, HB.out⟩
    | false =>
      rw [hr] at HC HV
      have e0 : formZ false = 2 := rfl
      rw [e0] at HC
      clear hv hr h3 h4 e0
      go_enter Try.func65, Try.ntmps65
      go_wp2_with fail
      refine (HC.out _).mono ?_
      rintro e w1 ⟨rfl, hb1⟩
      have HB := Lib.hid (one_box hb1)
      clear hb1
      go_wp2
      go_ret
      exact ⟨by rw [HV.out]; rfl, HB.out⟩

theorem all_any {α : Type} (p : α → Bool) (l : List α) : l.all p = !l.any fun x => !p x := by
  induction l with
  | nil => rfl
  | cons x r ih => rw [List.all_cons, List.any_cons, ih, Bool.not_or, Bool.not_not]

set_option maxRecDepth 100000 in
set_option maxHeartbeats 2000000 in
theorem areCells_calls (r : List TermL) (hok : ∀ t ∈ r, t.ok) (a : Option Addr) (n c : Nat) (w : World) (h : TrmA w a n c r) : Calls Try.prog 45 #[.slice a n c] w fun e w' => e = .returned (.bool (r.all valueZ)) ∧ Below w.heap.size w w' := by
  have eg : ∀ args w, (callFunc 65 args).run Try.prog w = .ok (.enter 65 args) w := enters_of Try.func65 (by kernel_rfl) rfl
  have HC := Lib.hid (hasT_calls r (fun t => !valueZ t) 65 #[] eg a n c w h (fun W j hj _ => cells1_calls r[j] (hok _ (List.getElem_mem hj)) W))
  have HA := Lib.hid (all_any valueZ r)
  clear h hok eg
  go_enter Try.func45, Try.ntmps45
  go_wp2_with fail
  refine HC.out.mono ?_
  rintro e w1 ⟨rfl, hb1⟩
  have HB := Lib.hid hb1
  clear hb1
  go_wp2
  go_ret
  exact ⟨by rw [HA.out]; rfl, HB.out⟩

set_option maxRecDepth 100000 in
set_option maxHeartbeats 2000000 in
theorem isTable1_calls (r : List TermL) (hok : ∀ t ∈ r, t.ok) (X n vc : Nat) (va : Option Addr) (a : Option Addr) (c : Nat) (w : World) (hX : w.cell? ⟨X, 0, none⟩ = some (.slice va n vc)) (h : TrmA w a r.length c r) :
    Calls Try.prog 44 #[.slice a r.length c, .pointer (some ⟨X, 0, none⟩)] w fun e w' => e = .returned (.bool (!rowZ n r)) ∧ Below w.heap.size w w' := by
  have HC := Lib.hid (areCells_calls r hok a r.length c w h)
  have HZ := Lib.hid (show rowZ n r = (decide (r.length = n) && r.all valueZ) from rfl)
  clear h hok
  generalize r.all valueZ = b at HC HZ
  by_cases hn : r.length = n
  · rw [decide_eq_true hn] at HZ
    have hne : ((r.length : Int) != (n : Int)) = false := by rw [hn]; exact bne_self_eq_false _
    generalize r.length = q at HC hne
    clear hn
    go_enter Try.func44, Try.ntmps44
    go_wp2_with fail
    refine HC.out.mono ?_
    rintro e w1 ⟨rfl, hb1⟩
    have HB := Lib.hid hb1
    clear hb1
    go_wp2
    go_ret
    exact ⟨by rw [HZ.out]; rfl, HB.out⟩
  · rw [decide_eq_false hn] at HZ
    have hne : ((r.length : Int) != (n : Int)) = true := bne_iff_ne.2 (by omega)
    generalize r.length = q at HC hne
    clear hn
    go_enter Try.func44, Try.ntmps44
    go_wp2
    go_ret
    exact ⟨by rw [HZ.out]; rfl, Below.refl _ _⟩

set_option maxRecDepth 100000 in
set_option maxHeartbeats 4000000 in
theorem isTable_calls (V : List (List UInt8)) (R : List (List TermL)) (hx : ∀ x ∈ V, (bs x).size ≤ maxLen) (hr : ∀ r ∈ R, ∀ t ∈ r, t.ok) (va ra : Option Addr) (n vc m rc : Nat) (w : World) (hV : TxtA w va n vc V) (hR : RowA w ra m rc R) :
    Calls Try.prog 22 #[.agg #[.slice va n vc, .slice ra m rc]] w fun e w' => e = .returned (.bool (tableB V R)) ∧ Below w.heap.size w w' := by
  have eg : ∀ args w, (callFunc 44 args).run Try.prog w = .ok (.enter 44 args) w := enters_of Try.func44 (by kernel_rfl) rfl
  have HV := Lib.hid hV
  have HR := Lib.hid hR
  have HX := Lib.hid hx
  have HOK := Lib.hid hr
  have HVL := Lib.hid hV.len
  have HRL := Lib.hid hR.len
  have hvc := hV.cap
  have hvm := hV.most
  have hrc := hR.cap
  have hrm := hR.most
  unfold maxLen at hvm hrm
  clear hV hR hx hr
  have HT0 := Lib.hid (fun T => TabIn.new w (.slice va n vc) (.slice ra m rc) T)
  by_cases h32 : 32 < n
  · have HE := Lib.hid (tableB_long (V := V) (R := R) (.inl (by rw [HVL.out]; exact h32)))
    have g1 : (32 : Int) < (n : Int) := by omega
    clear eg
    go_enter Try.func22, Try.ntmps22
    go_wp2
    go_ret
    exact ⟨by rw [HE.out]; rfl, box_below _ _⟩
  by_cases h64 : 64 < m
  · have HE := Lib.hid (tableB_long (V := V) (R := R) (.inr (by rw [HRL.out]; exact h64)))
    have g1 : ¬ (32 : Int) < (n : Int) := by omega
    have g2 : (64 : Int) < (m : Int) := by omega
    clear eg
    go_enter Try.func22, Try.ntmps22
    go_wp2
    go_ret
    exact ⟨by rw [HE.out]; rfl, box_below _ _⟩
  have g1 : ¬ (32 : Int) < (n : Int) := by omega
  have g2 : ¬ (64 : Int) < (m : Int) := by omega
  have HEG := Lib.hid eg
  clear eg
  go_enter Try.func22, Try.ntmps22
  go_wp2
  go_loopg [3, 18] n (fun g _ i wr => ∃ k : Nat, i = .int .i64 k ∧ k + g = n ∧ Hid (NamesR V k) ∧ Hid (TabIn w (.slice va n vc) (.slice ra m rc) wr))
  case atStart => exact ⟨0, rfl, by omega, Lib.hid (names_start V), Lib.hid (HT0.out _)⟩
  case round =>
    obtain ⟨W1, rfl⟩ : ∃ W1, W1 = wr := ⟨_, rfl⟩
    obtain ⟨k, rfl, hkg, HN, HT⟩ := hrel
    obtain ⟨t0, t1, hbW, hXW⟩ := HT.out
    have HBW := Lib.hid hbW
    clear hbW
    by_cases hk : k < n
    · obtain ⟨gg, rfl⟩ : ∃ gg, gk = gg + 1 := ⟨gk - 1, by omega⟩
      have hkL : k < V.length := by rw [HVL.out]; exact hk
      obtain ⟨g, o, ha, hgw, hcells⟩ := HV.out.cells (by omega)
      subst ha
      have hgW : g < W1.heap.size := Nat.lt_of_lt_of_le hgw HBW.out.size
      have c0 := (HBW.out.cell (p := ⟨g, o + k, none⟩) hgw).trans (hcells k hkL)
      have HNX := Lib.hid (fun h1 h2 => names_next HN.out hkL h1 h2)
      have HST := Lib.hid (fun h1 => names_stop HN.out hkL h1)
      have HNM := Lib.hid (fun W => IsName_calls (bs V[k]) W (HX.out _ (List.getElem_mem hkL)))
      have HIN := Lib.hid (fun W h => conA_calls (V.take k) V[k] g o k vc W h)
      have HTK := Lib.hid (HV.out.cut (Nat.le_of_lt hk))
      simp only [bs_data] at HNM
      clear hcells
      generalize V[k] = y at c0 HNX HST HNM HIN
      have hb1 : nameL y = true ∨ nameL y = false := by cases nameL y <;> simp
      have hk0 : (0 : Int) ≤ (k : Int) := by omega
      have hkn : (k : Int) < (n : Int) := by omega
      rcases hb1 with hb1 | hb1
      · rw [hb1] at HNM
        by_cases hin : y ∈ V.take k
        · rw [decide_eq_true hin] at HIN
          have HE := Lib.hid (tableB_names (R := R) (HST.out (fun c => c.2 hin)))
          clear HNX HST hin hb1
          go_wp2_with fail
          refine (HNM.out _).mono ?_
          rintro e w2 ⟨rfl, hb2⟩
          have HT2 := Lib.hid (HT.out.on hb2)
          clear hb2 t0 t1 hXW
          obtain ⟨t0, t1, hbW, hXW⟩ := HT2.out
          have HB2 := Lib.hid hbW
          clear hbW
          go_wp2_with fail
          refine (HIN.out _ (HTK.out.on HB2.out)).mono ?_
          rintro e w3 ⟨rfl, hw3⟩
          subst hw3
          go_wp2
          go_ret
          exact ⟨by rw [HE.out]; rfl, HB2.out⟩
        · rw [decide_eq_false hin] at HIN
          have HN2 := Lib.hid (HNX.out hb1 hin)
          clear HNX HST hin hb1
          go_wp2_with fail
          refine (HNM.out _).mono ?_
          rintro e w2 ⟨rfl, hb2⟩
          have HT2 := Lib.hid (HT.out.on hb2)
          clear hb2 t0 t1 hXW
          obtain ⟨t0, t1, hbW, hXW⟩ := HT2.out
          have HB2 := Lib.hid hbW
          clear hbW
          go_wp2_with fail
          refine (HIN.out _ (HTK.out.on HB2.out)).mono ?_
          rintro e w3 ⟨rfl, hw3⟩
          subst hw3
          go_wp2
          go_roundg gg
          case measure => omega
          case rel => exact ⟨k + 1, by go_num, by omega, HN2, HT2⟩
      · rw [hb1] at HNM
        have HE := Lib.hid (tableB_names (R := R) (HST.out (fun c => by rw [hb1] at c; exact absurd c.1 (by decide))))
        clear HNX HST hb1
        go_wp2_with fail
        refine (HNM.out _).mono ?_
        rintro e w2 ⟨rfl, hb2⟩
        have HT2 := Lib.hid (HT.out.on hb2)
        clear hb2 t0 t1 hXW
        obtain ⟨t0, t1, hbW, hXW⟩ := HT2.out
        have HB2 := Lib.hid hbW
        clear hbW
        go_wp2
        go_ret
        exact ⟨by rw [HE.out]; rfl, HB2.out⟩
    · have HNA := Lib.hid (names_end HN.out (by rw [HVL.out]; omega))
      have k1 : ¬ (k : Int) < (n : Int) := by omega
      have HC := Lib.hid (hasR_calls R (fun r => !rowZ n r) 44 #[.pointer (some ⟨w.heap.size, 0, none⟩)] HEG.out ra m rc W1 (HR.out.on HBW.out) (fun W j hj a' c' hb ht => isTable1_calls R[j] (HOK.out _ (List.getElem_mem hj)) w.heap.size n vc va a' c' W ((hb.cell (p := ⟨_, _, none⟩) hXW).trans t0) ht))
      have HRB := Lib.hid (all_any (rowZ n) R)
      generalize (R.any fun r => !rowZ n r) = b at HC HRB
      go_wp2_with fail
      refine HC.out.mono ?_
      rintro e w2 ⟨rfl, hb2⟩
      have HT2 := Lib.hid (HT.out.on hb2)
      clear hb2 t0 t1 hXW
      obtain ⟨t0, t1, hbW, hXW⟩ := HT2.out
      have HB2 := Lib.hid hbW
      clear hbW
      go_wp2
      go_ret
      refine ⟨?_, HB2.out⟩
      have : tableB V R = !b := by
        rw [← HRB.out]
        unfold tableB
        rw [HNA.out, HVL.out, HRL.out, decide_eq_true (by omega), decide_eq_true (by omega), rowsB_eq]; rfl
      rw [this]; rfl

set_option maxRecDepth 100000 in
set_option maxHeartbeats 2000000 in
theorem pats1_calls (t : TripL) (ht : t.ok) (w : World) : Calls Try.prog 40 #[t.v] w fun e w' => e = .returned (.bool (!patB t)) ∧ Below w.heap.size w w' := by
  have HC := Lib.hid (fun W => tPattern_calls t ht W)
  clear ht
  cases hb : patB t with
  | true =>
    rw [hb] at HC
    have e0 : formZ true = 0 := rfl
    rw [e0] at HC
    clear hb e0
    obtain ⟨⟨k1, x1, y1, z1⟩, ⟨k2, x2, y2, z2⟩, ⟨k3, x3, y3, z3⟩⟩ := t
    simp only [TripL.v] at HC ⊢
    go_enter Try.func40, Try.ntmps40
    go_wp2_with fail
    refine (HC.out _).mono ?_
    rintro e w1 ⟨rfl, hb1⟩
    have HB := Lib.hid (one_box hb1)
    clear hb1
    go_wp2
    go_ret
    exact ⟨rfl, HB.out⟩
  | false =>
    rw [hb] at HC
    have e0 : formZ false = 2 := rfl
    rw [e0] at HC
    clear hb e0
    obtain ⟨⟨k1, x1, y1, z1⟩, ⟨k2, x2, y2, z2⟩, ⟨k3, x3, y3, z3⟩⟩ := t
    simp only [TripL.v] at HC ⊢
    go_enter Try.func40, Try.ntmps40
    go_wp2_with fail
    refine (HC.out _).mono ?_
    rintro e w1 ⟨rfl, hb1⟩
    have HB := Lib.hid (one_box hb1)
    clear hb1
    go_wp2
    go_ret
    exact ⟨rfl, HB.out⟩

set_option maxRecDepth 100000 in
set_option maxHeartbeats 2000000 in
theorem arePatterns_calls (T : List TripL) (hok : ∀ t ∈ T, t.ok) (a : Option Addr) (n c : Nat) (w : World) (h : TrpA w a n c T) : Calls Try.prog 21 #[.slice a n c] w fun e w' => e = .returned (.bool (patsB T)) ∧ Below w.heap.size w w' := by
  have eg : ∀ args w, (callFunc 40 args).run Try.prog w = .ok (.enter 40 args) w := enters_of Try.func40 (by kernel_rfl) rfl
  have HC := Lib.hid (hasP_calls T (fun t => !patB t) 40 #[] eg a n c w h (fun W j hj _ => pats1_calls T[j] (hok _ (List.getElem_mem hj)) W))
  have HA := Lib.hid (all_any patB T)
  have HL := Lib.hid h.len
  clear h hok eg
  generalize (T.any fun t => !patB t) = b at HC HA
  by_cases h32 : n ≤ 32
  · have g1 : (n : Int) ≤ 32 := by omega
    go_enter Try.func21, Try.ntmps21
    go_wp2_with fail
    refine HC.out.mono ?_
    rintro e w1 ⟨rfl, hb1⟩
    have HB := Lib.hid hb1
    clear hb1
    go_wp2
    go_ret
    refine ⟨?_, HB.out⟩
    have : patsB T = !b := by unfold patsB; rw [HA.out, HL.out, decide_eq_true h32, Bool.and_true]
    rw [this]; rfl
  · have g1 : ¬ (n : Int) ≤ 32 := by omega
    have HE := Lib.hid (patsB_long (T := T) (by rw [HL.out]; omega))
    go_enter Try.func21, Try.ntmps21
    go_wp2
    go_ret
    exact ⟨by rw [HE.out]; rfl, Below.refl _ _⟩

end Go.Proofs.Ytiliobfgmelncaa
