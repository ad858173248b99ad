/- A row's text: package shape's text of numbers. -/
import Derived.Test.YtkfemnjblbnclaaGreatDoorGMap
import Derived.Test.YtkfemnjblbnclaaGreatDoorGIds
import Derived.Test.YtkfemnjblbnclaaGreatDoorShpLaws
import Derived.Test.YtkfemnjblbnclaaGreatDoorGNumA
import Derived.Test.YtkfemnjblbnclaaGreatDoorShelf
import Derived.Laws.IdiomStrings
import Derived.Lib.UnsafeStr
import Derived.Deep.LoopGhost
namespace Go.Proofs.YtkfemnjblbnclaaGreatDoor
open Go.RowKit Go.Maps

/- what holds of the two tables holds behind what leaves them alone -/
theorem tab_same {w w' : World} {n : String} {k : IntKind} {zs : List Int} {g : Nat} (h : Lib.TabIs Tryz.prog w n k zs) (hg : Tryz.prog.globalNamed n = some g) (hs : w'.heap[g]? = w.heap[g]?) : Lib.TabIs Tryz.prog w' n k zs := by
  unfold Lib.TabIs World.var? at *
  simp only [hg, Option.bind_some] at h ⊢
  rw [hs]; exact h
theorem good_stay {K : Nat → Prop} {w w' : World} (h : Nm.Good w) (hs : Stay K w w') (h1 : K 0) (h2 : K 2) : Nm.Good w' :=
  ⟨tab_same h.pow Nm.gPow (hs.block _ h.big h1), tab_same h.dec Nm.gDec (hs.block _ h.big2 h2), Nat.lt_of_lt_of_le h.big hs.size, Nat.lt_of_lt_of_le h.big2 hs.size⟩
theorem tab_cells {w : World} {n : String} {k : IntKind} {zs : List Int} {g : Nat} (h : Lib.TabIs Tryz.prog w n k zs) (hg : Tryz.prog.globalNamed n = some g) : ∃ cs t f, w.heap[g]? = some (.cells cs t f) := by
  unfold Lib.TabIs World.var? at h
  simp only [hg, Option.bind_some] at h
  split at h
  · rename_i e; exact ⟨_, _, _, e⟩
  · cases h
theorem map_ne {T : TypeId} {α : Type} {ok : α → Prop} {code : α → List UInt8} {w : World} {b s : Nat} {f : α → Option Int} (h : MapG T ok code w b s f) {g : Nat} {cs : Array Value} {t : TypeId} {fz : Nat × Nat} (hc : w.heap[g]? = some (.cells cs t fz)) : b ≠ g := by
  obtain ⟨D, ⟨es, c, hb, _⟩, _⟩ := h
  rintro rfl
  rw [hb] at hc
  cases hc
theorem good_map {T : TypeId} {α : Type} {ok : α → Prop} {code : α → List UInt8} {w w' : World} {b s : Nat} {f : α → Option Int} (h : Nm.Good w) (hm : MapG T ok code w b s f) (hg : w.grownBy w' (some b)) : Nm.Good w' := by
  obtain ⟨c1, t1, f1, e1⟩ := tab_cells h.pow Nm.gPow
  obtain ⟨c2, t2, f2, e2⟩ := tab_cells h.dec Nm.gDec
  exact good_stay h (stay_row hg) (Ne.symm (map_ne hm e1)) (Ne.symm (map_ne hm e2))

theorem add_at0 (g o j : Nat) : (⟨g, o, none⟩ : Addr).add j = ⟨g, o + j, none⟩ := by unfold Addr.add; split <;> simp_all
theorem news_gen (W : World) (T : TypeId) (cs : List Value) {X : Nat} (hX : X = W.heap.size) : ∀ n u, cs[n]? = some u → (W.alloc (.cells cs.toArray T)).cell? ((⟨X, 0, none⟩ : Addr).add n) = some u := by
  subst hX
  intro n u hu
  rw [add_at0, Nat.zero_add, blk_cell (blk_new W T cs.toArray)]
  simpa using hu
theorem info_byte : (Tryz.prog.info? 5).map (fun i => (i.zero, i.size, i.bytes)) = some (some (.int .u8 0), 1, 1) := by kernel_rfl
theorem conv_nil (W : World) : (Go.convert 113 9 (.slice none 0 0)).run Tryz.prog W = .ok (.string ⟨#[]⟩) W := by kernel_rfl
theorem conv_own {w : World} {B n : Nat} {v : Value} {l : List UInt8} (h : w.ownsRow B 5 1 v n (Lib.byteCells l)) : (Go.convert 113 9 v).run Tryz.prog w = .ok (.string (bs l)) w := by
  have hl : l.length = n := by have := h.1; rw [Lib.byteCells_length] at this; omega
  rcases h.2 with ⟨rfl, h0⟩ | ⟨g, cap, cur, rfl, _⟩
  · have : l = [] := List.eq_nil_of_length_eq_zero (by omega)
    subst this
    exact conv_nil w
  · have := run_convert_bytes_back (P := Tryz.prog) w 113 9 5 ⟨g, 0, none⟩ cap l Tryz.underlying113 Tryz.underlying5 Tryz.underlying9 (fun j hj => h.cells (g := g) rfl j _ (by unfold Lib.byteCells; simp [hj]))
    rw [hl] at this
    exact this
theorem putT_upd (f : NumT) (t : TermL) (v : Option Int) : updG f t v = putT f t v := rfl
/- what the rounds keep -/
def TextR (w : World) (b : Nat) (p : NumT × Nat) (r : List TermL) (k : Nat) (v : Value) (wr : World) : Prop :=
  MapT wr b (runN p (r.take k)).2 (runN p (r.take k)).1 ∧ wr.ownsRow w.heap.size 5 1 v (txtN (runN p (r.take k)).1 (r.take k)).length (Lib.byteCells (txtN (runN p (r.take k)).1 (r.take k))) ∧ w.grownBy wr (some b)
theorem grown_trans {a b c : World} {row : Option Nat} (h : a.grownBy b row) (k : b.grownBy c row) : a.grownBy c row := h.andThen k (fun _ hj => .inr hj)
theorem grown_below {a b c : World} {row : Option Nat} (h : a.grownBy b row) (k : Below a.heap.size b c) : a.grownBy c row := by
  refine ⟨k.os.trans h.os, k.tape.trans h.tape, k.output.trans h.output, Nat.le_trans h.size k.size, fun i hi hne => ?_⟩
  rw [k.block i hi]
  exact h.block i hi hne
theorem map_cell {T : TypeId} {α : Type} {ok : α → Prop} {code : α → List UInt8} {w : World} {b s : Nat} {f : α → Option Int} (h : MapG T ok code w b s f) {g o : Nat} {v : Value} (hc : w.cell? ⟨g, o, none⟩ = some v) : g ≠ b := by
  obtain ⟨D, ⟨es, c, hb, _⟩, _⟩ := h
  rintro rfl
  unfold World.cell? at hc
  simp [hb] at hc
theorem tab_below {w W : World} {b s : Nat} {f : NumT} (hg : Nm.Good w) (hm : MapT w b s f) (hgr : w.grownBy W (some b)) : Lib.TabBelow Tryz.prog w.heap.size W "internal/strconv.uint64pow10" .u64 Lib.pow10Tab :=
  fun _ hb => tab_same (good_map hg hm hgr).dec Nm.gDec (hb.block _ hg.big2)
theorem own_from {w : World} {B size n : Nat} {e : TypeId} {v : Value} {xs : List Value} (h : w.ownsRow B e size v n xs) (k : Nat) (hk : v.ownBlock = some k) : B ≤ k := (h.lt k hk).1
theorem own_ne {w : World} {B size n b : Nat} {e : TypeId} {v : Value} {xs : List Value} (h : w.ownsRow B e size v n xs) (hb : b < B) : some b ≠ v.ownBlock := fun e => by
  have := own_from h b e.symm
  omega
theorem own_text {w : World} {B : Nat} {v : Value} {L : List UInt8} {u : Int} (h : w.ownsRow B 5 1 v (L.length + (Lib.itoa u).length + 1) ((Lib.byteCells L ++ Lib.byteCells (Lib.itoa u)) ++ [.int .u8 32])) : w.ownsRow B 5 1 v (L ++ (Lib.itoa u ++ [32])).length (Lib.byteCells (L ++ (Lib.itoa u ++ [32]))) := by
  rw [Lib.byteCells_append, Lib.byteCells_append, List.length_append, List.length_append, ← List.append_assoc, ← Nat.add_assoc]
  exact h
/- the next term -/
structure NextN (p : NumT × Nat) (r : List TermL) (k : Nat) (f : NumT) (s : Nat) (y : TermL) : Prop where
  old : ∀ v, f y = some v → runN p (r.take (k + 1)) = (f, s) ∧ txtN f (r.take (k + 1)) = txtN f (r.take k) ++ (Lib.itoa v ++ [32]) ∧ 0 ≤ v ∧ v < s
  new : f y = none → runN p (r.take (k + 1)) = (putT f y (some s), s + 1) ∧ txtN (putT f y (some s)) (r.take (k + 1)) = txtN f (r.take k) ++ (Lib.itoa (s : Int) ++ [32])
  le : s ≤ p.2 + k
  len : s ≤ 1000000 → (txtN f (r.take k)).length ≤ k * 22
theorem text_next {p : NumT × Nat} {r : List TermL} {k : Nat} {f : NumT} {s : Nat} (hp : NumF p.1 p.2) (hk : k < r.length) (hfs : runN p (r.take k) = (f, s)) : NextN p r k f s r[k] := by
  obtain ⟨h1, _, h3, h4⟩ := run_num hp (r.take k)
  rw [hfs] at h1 h3 h4
  dsimp only at h1 h3 h4
  have hl : (r.take k).length = k := by rw [List.length_take]; omega
  have e : runN p (r.take (k + 1)) = stepN (f, s) r[k] := by rw [List.take_succ_eq_append_getElem hk, runN_snoc, hfs]
  refine ⟨fun v hv => ?_, fun hv => ?_, by omega, fun h6 => ?_⟩
  · have e2 : stepN (f, s) r[k] = (f, s) := by unfold stepN; rw [if_pos (by dsimp only; rw [hv]; rfl)]
    refine ⟨by rw [e, e2], ?_, h1.1 _ v hv⟩
    rw [List.take_succ_eq_append_getElem hk, txt_snoc, hv]; rfl
  · have e2 : stepN (f, s) r[k] = (putT f r[k] (some s), s + 1) := by unfold stepN; rw [if_neg (by dsimp only; rw [hv]; simp)]
    refine ⟨by rw [e, e2], ?_⟩
    have hx := step_ext (f, s) r[k]
    rw [e2] at hx
    rw [List.take_succ_eq_append_getElem hk, txt_snoc, txt_ext hx h3]
    have e3 : putT f r[k] (some s) r[k] = some (s : Int) := if_pos rfl
    rw [e3]; rfl
  · have := txt_len h1 h6 (r.take k) h3
    rw [hl] at this
    exact this

set_option maxRecDepth 100000 in
set_option maxHeartbeats 8000000 in
theorem text_calls (p : NumT × Nat) (b : Nat) (r : List TermL) (hr : ∀ t ∈ r, okT t) (a : Option Addr) (n c : Nat) (w : World) (hg : Nm.Good w) (hm : MapT w b p.2 p.1) (hp : NumF p.1 p.2) (h : TrmA w a n c r) (hn : n ≤ 1000) (hs : p.2 + n ≤ 1000000) :
    Calls Tryz.prog 56 #[.map (some b), .slice a n c] w fun e w' => e = .returned (.string (bs (txtN (runN p r).1 r))) ∧ MapT w' b (runN p r).2 (runN p r).1 ∧ w.grownBy w' (some b) := by
  obtain ⟨i0, hi, hz0, hz1, hz2⟩ := info_parts info_byte
  have HIN := Lib.hid h
  have HL := Lib.hid h.len
  have HOK := Lib.hid hr
  have HP := Lib.hid hp
  have HG := Lib.hid hg
  have hcp := h.cap
  have hms := h.most
  unfold maxLen at hms
  have hbw := Lib.hid hm.lt
  have HR0 := Lib.hid (show TextR w b p r 0 (.slice none 0 0) w from ⟨by rw [List.take_zero]; exact hm, by rw [List.take_zero]; exact World.ownsRow_nil _ _ _ _, grown_refl _ _⟩)
  have HM0 := Lib.hid hm
  clear h hr hp hg hm
  go_enter Tryz.func56, Tryz.ntmps56
  go_wp2
  go_loopg [5, 8, 9, 12] n (fun g v _ _ i wr => ∃ k : Nat, i = .int .i64 k ∧ k + g = n ∧ Hid (TextR w b p r k v wr))
  case atStart => exact ⟨0, rfl, by omega, HR0⟩
  case round =>
    obtain ⟨W1, rfl⟩ : ∃ W1, W1 = wr := ⟨_, rfl⟩
    obtain ⟨k, rfl, hkg, HR⟩ := hrel
    obtain ⟨hm1, ho1, hg1⟩ := HR.out
    by_cases hk : k < n
    · obtain ⟨gg, rfl⟩ : ∃ gg, gk = gg + 1 := ⟨gk - 1, by omega⟩
      have hkL : k < r.length := by rw [HL.out]; exact hk
      obtain ⟨g, o, ha, hgw, hcells⟩ := HIN.out.cells (by omega)
      subst ha
      obtain ⟨⟨f, s⟩, hfs⟩ : ∃ q, runN p (r.take k) = q := ⟨_, rfl⟩
      have HNX := Lib.hid (text_next HP.out hkL hfs)
      rw [hfs] at hm1 ho1
      dsimp only at hm1 ho1
      have ht0 := hcells k hkL
      obtain ⟨c0, c1, c2, c3⟩ := ht0.same (hg1.block g hgw (fun e => map_cell HM0.out ht0.1 (Option.some.inj e)))
      have hgW : g < W1.heap.size := Nat.lt_of_lt_of_le hgw hg1.size
      have hok := Lib.hid (HOK.out _ (List.getElem_mem hkL))
      have HSB := Lib.hid (show s ≤ 1000000 by have := HNX.out.le; omega)
      obtain ⟨l0, hl0⟩ : ∃ l0, (txtN f (r.take k)).length = l0 := ⟨_, rfl⟩
      have HLB := Lib.hid (show l0 ≤ 22000 by have := HNX.out.len HSB.out; rw [hl0] at this; omega)
      rw [hl0] at ho1
      have HL0 := Lib.hid hl0
      have HFS := Lib.hid hfs
      clear hcells ht0 hfs hl0
      generalize r[k] = y at c0 c1 c2 c3 hok HNX
      have HB := Lib.hid (box_below W1 (.cells #[.int .i64 y.k, .string (bs y.x), .string (bs y.y), .string (bs y.z)] 23))
      have HMA := Lib.hid (hm1.on HB.out)
      have HOA := Lib.hid (ho1.alloc (.cells #[.int .i64 y.k, .string (bs y.x), .string (bs y.y), .string (bs y.z)] 23))
      have HGA := Lib.hid (hg1.andThen (World.grownBy_alloc W1 (.cells #[.int .i64 y.k, .string (bs y.x), .string (bs y.y), .string (bs y.z)] 23) none) (fun j hj => by cases hj))
      clear hm1 ho1 hg1 HB
      have k0 : (0 : Int) ≤ (k : Int) := by omega
      have k1 : (k : Int) < (n : Int) := by omega
      cases hq : f y with
      | some u =>
        obtain ⟨e1, e2, e3, e4⟩ := HNX.out.old u hq
        have HTX := Lib.hid e2
        have HRN := Lib.hid e1
        have u0 : -9223372036854775808 ≤ u := by omega
        have u1 : u ≤ 9223372036854775807 := by have := HSB.out; omega
        have HTB := Lib.hid (tab_below HG.out HM0.out HGA.out)
        have hlim := Lib.hid (show l0 + 21 ≤ 140737488355328 by have := HLB.out; omega)
        have HM1 := Lib.hid (show l0 + (Lib.itoa u).length + 1 ≤ maxLen by have := itoa_len e3 (by omega); have := HLB.out; unfold maxLen; omega)
        have HM3 := Lib.hid (show (l0 + (Lib.itoa u).length + 1) * 1 ≤ 140737488355328 by have := itoa_len e3 (by omega); have := HLB.out; omega)
        clear HNX e1 e2 e3 e4
        go_wp2_with (first
          | (at_lookup; refine wpList_look_g rfl _ _ 86 rfl keyT Tryz.underlying86 rfl HMA.out y hok.out rfl ?_; rw [hq]; simp only [Option.getD_some, Option.isSome_some]; clear hq)
          | (go_at_call 77; refine (Tryz.strconv_AppendInt_10 w.heap.size l0 u u0 u1 u5 _ _ HOA.out HGA.out.size hlim.out HTB.out).mono ?_; rintro e w3 ⟨v3, rfl, ho3, hb3, _⟩; have HO3 := Lib.hid ho3; have HB3 := Lib.hid hb3; have HW3 := Lib.hid (Nat.le_trans HGA.out.size hb3.size); clear ho3 hb3 HTB hlim u0 u1)
          | (at_builtin; (refine wpList_append_own_at _ rfl (.tmp 32) (.tmp 33) 113 rfl w.heap.size 5 i0 (.int .u8 0) 1 1 Tryz.underlying113 hi hz0 hz1 hz2 rfl (by decide) v3 _ _ rfl (HO3.out.alloc _) ⟨w3.heap.size, 0, none⟩ 1 1 [.int .u8 32] rfl rfl (news_gen _ _ _ rfl) (by intro u hu; simp at hu; subst hu; rfl) HM1.out HM3.out (Nat.le_trans HW3.out (by simp)) ?_; intro v4 w4 ho4 hg4 _ _; have HO4 := Lib.hid ho4; have HG4 := Lib.hid hg4; clear ho4 hg4)))
        have HR5 := Lib.hid (show TextR w b p r (k + 1) v4 w4 from by
          have hg3 : w.grownBy w3 (some b) := grown_below HGA.out HB3.out
          unfold TextR
          rw [HRN.out]
          dsimp only
          rw [HTX.out]
          have hm3 : MapT w3 b s f := HMA.out.stay (stay_under HB3.out) hbw.out
          refine ⟨(hm3.on (box_below w3 _)).kept HG4.out (own_ne HO3.out hbw.out), own_text (L := txtN f (r.take k)) (u := u) (by rw [HL0.out]; exact HO4.out), ?_⟩
          exact (hg3.andThen (World.grownBy_alloc w3 _ none) (fun j hj => by cases hj)).andThen HG4.out (fun j hj => .inl (own_from HO3.out j hj)))
        clear HO4 HG4 HO3 HB3 HTX HRN HMA HOA HGA
        go_roundg gg
        case measure => omega
        case rel => exact ⟨k + 1, by go_num, by omega, HR5⟩
      | none =>
        obtain ⟨e1, e2⟩ := HNX.out.new hq
        have HTX := Lib.hid e2
        have HRN := Lib.hid e1
        have u0 : -9223372036854775808 ≤ (s : Int) := by omega
        have u1 : (s : Int) ≤ 9223372036854775807 := by have := HSB.out; omega
        have hlim := Lib.hid (show l0 + 21 ≤ 140737488355328 by have := HLB.out; omega)
        have HWF := Lib.hid (wf_nat (n := s) (by have := HSB.out; omega))
        have HSM := Lib.hid (show s < maxLen by have := HSB.out; unfold maxLen; omega)
        have hqs : (f y).isSome = false := by rw [hq]; rfl
        have HQS := Lib.hid hqs
        have HM1 := Lib.hid (show l0 + (Lib.itoa (s : Int)).length + 1 ≤ maxLen by have := itoa_len (v := (s : Int)) (by omega) (by omega); have := HLB.out; unfold maxLen; omega)
        have HM3 := Lib.hid (show (l0 + (Lib.itoa (s : Int)).length + 1) * 1 ≤ 140737488355328 by have := itoa_len (v := (s : Int)) (by omega) (by omega); have := HLB.out; omega)
        clear HNX e1 e2 hqs
        go_wp2_with (first
          | (at_lookup; refine wpList_look_g rfl _ _ 86 rfl keyT Tryz.underlying86 rfl HMA.out y hok.out rfl ?_; rw [hq]; simp only [Option.getD_none, Option.isSome_none]; clear hq)
          | (at_len; refine wpList_len_g rfl _ 86 rfl Tryz.underlying86 rfl HMA.out ?_)
          | (at_mapUpdate; refine wpList_put_g rfl _ _ _ 86 rfl keyT Tryz.underlying86 rfl HMA.out HSM.out y hok.out rfl (s : Int) rfl HWF.out ?_; intro w2 h2 g2; rw [if_neg (by rw [HQS.out]; simp), putT_upd] at h2; have HM2 := Lib.hid h2; have HG2 := Lib.hid (grown_trans HGA.out g2); have HO2 := Lib.hid (HOA.out.kept g2 (.inr (Ne.symm (own_ne HOA.out hbw.out)))); have HTB := Lib.hid (tab_below HG.out HM0.out HG2.out); clear h2 g2)
          | (go_at_call 77; refine (Tryz.strconv_AppendInt_10 w.heap.size l0 (s : Int) u0 u1 u5 _ _ HO2.out HG2.out.size hlim.out HTB.out).mono ?_; rintro e w3 ⟨v3, rfl, ho3, hb3, _⟩; have HO3 := Lib.hid ho3; have HB3 := Lib.hid hb3; have HW3 := Lib.hid (Nat.le_trans HG2.out.size hb3.size); clear ho3 hb3 HTB hlim u0 u1)
          | (at_builtin; (refine wpList_append_own_at _ rfl (.tmp 32) (.tmp 33) 113 rfl w.heap.size 5 i0 (.int .u8 0) 1 1 Tryz.underlying113 hi hz0 hz1 hz2 rfl (by decide) v3 _ _ rfl (HO3.out.alloc _) ⟨w3.heap.size, 0, none⟩ 1 1 [.int .u8 32] rfl rfl (news_gen _ _ _ rfl) (by intro u hu; simp at hu; subst hu; rfl) HM1.out HM3.out (Nat.le_trans HW3.out (by simp)) ?_; intro v4 w4 ho4 hg4 _ _; have HO4 := Lib.hid ho4; have HG4 := Lib.hid hg4; clear ho4 hg4)))
        have HR5 := Lib.hid (show TextR w b p r (k + 1) v4 w4 from by
          have hg3 : w.grownBy w3 (some b) := grown_below HG2.out HB3.out
          unfold TextR
          rw [HRN.out]
          dsimp only
          rw [HTX.out]
          have hm3 : MapT w3 b (s + 1) (putT f y (some (s : Int))) := HM2.out.stay (stay_under HB3.out) hbw.out
          refine ⟨(hm3.on (box_below w3 _)).kept HG4.out (own_ne HO3.out hbw.out), own_text (L := txtN f (r.take k)) (u := (s : Int)) (by rw [HL0.out]; exact HO4.out), ?_⟩
          exact (hg3.andThen (World.grownBy_alloc w3 _ none) (fun j hj => by cases hj)).andThen HG4.out (fun j hj => .inl (own_from HO3.out j hj)))
        clear HO4 HG4 HO3 HB3 HTX HRN HM2 HO2 HG2
        go_roundg gg
        case measure => omega
        case rel => exact ⟨k + 1, by go_num, by omega, HR5⟩
    · have hkn : k = n := by omega
      have k1 : ¬ (k : Int) < (n : Int) := by omega
      have ht : r.take k = r := List.take_of_length_le (by rw [HL.out]; omega)
      rw [ht] at hm1 ho1
      have hcv := conv_own ho1
      have HM1 := Lib.hid hm1
      have HG1 := Lib.hid hg1
      clear hm1 ho1 hg1 ht
      go_wp2
      go_ret
      exact ⟨rfl, HM1.out, HG1.out⟩

end Go.Proofs.YtkfemnjblbnclaaGreatDoor
