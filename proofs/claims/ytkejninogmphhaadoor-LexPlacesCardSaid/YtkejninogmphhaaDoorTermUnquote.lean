/- A literal's text with its double quotes and escapes, at a text's head: what package term's unquote comes to, for every text. -/
import Derived.Test.YtkejninogmphhaaDoorTermTake
import Derived.Lib.OthersKept
namespace Go.Proofs.YtkejninogmphhaaDoor
open Go.RowKit

theorem info_byte : (Tryd.prog.info? 5).map (fun i => (i.zero, i.size, i.bytes)) = some (some (.int .u8 0), 1, 1) := by kernel_rfl

/- a row of bytes that the call owns, read as a text -/
theorem convert_own {w : World} {base n : Nat} {v : Value} {l : List UInt8} (h : w.ownsRow base 5 1 v n (Lib.byteCells l)) :
    (convert 69 9 v).run Tryd.prog w = .ok (.string (bs l)) w := by
  have hl : n = l.length := by have := h.1; rw [Lib.byteCells_length] at this; omega
  subst hl
  rcases h.2 with ⟨rfl, h0⟩ | ⟨g, cap, cur, rfl, _⟩
  · have e : l = [] := List.eq_nil_of_length_eq_zero h0
    subst e
    rw [run_convert_bytes_string w 69 9 5 none 0 0 Tryd.underlying69 Tryd.underlying5 Tryd.underlying9]
    rfl
  · exact run_convert_bytes_back (P := Tryd.prog) w 69 9 5 ⟨g, 0, none⟩ cap l Tryd.underlying69 Tryd.underlying5 Tryd.underlying9 (fun j hj => h.cells (g := g) rfl j _ (by simp [Lib.byteCells, hj]))

/- a row that the call owns is no string's iterator: it stays while that one goes on -/
theorem row_not_iter {w : World} {B e size n : Nat} {v : Value} {xs : List Value} {k pos : Nat} {s : ByteArray} (h : w.ownsRow B e size v n xs) (hk : w.heap[k]? = some (.stringIter s pos)) : some k ≠ v.ownBlock := by
  intro c
  rcases h.2 with ⟨rfl, _⟩ | ⟨g, cap, cur, rfl, _, hg, _⟩
  · simp [Value.ownBlock] at c
  · simp only [Value.ownBlock, Option.some.injEq] at c
    rw [c, hg] at hk; cases hk
theorem row_iter {w : World} {B e size n : Nat} {v : Value} {xs : List Value} {k pos : Nat} {s : ByteArray} (h : w.ownsRow B e size v n xs) (hk : w.heap[k]? = some (.stringIter s pos)) (q : Nat) : (w.iterAt k s q).ownsRow B e size v n xs := by
  refine ⟨h.1, ?_⟩
  rcases h.2 with h0 | ⟨g, cap, cur, hv, hb, hg, r⟩
  · exact .inl h0
  · refine .inr ⟨g, cap, cur, hv, hb, ?_, r⟩
    rw [Lib.iterAt_other w k g s q (fun c => by subst c; rw [hk] at hg; cases hg), hg]

theorem row_some {w : World} {B e size n : Nat} {v : Value} {xs : List Value} (h : w.ownsRow B e size v (n + 1) xs) : ∃ g cap, v = .slice (some ⟨g, 0, none⟩) (n + 1) cap := by
  rcases h.2 with ⟨_, h0⟩ | ⟨g, cap, cur, hv, _⟩
  · omega
  · exact ⟨g, cap, hv⟩

theorem row_slice {w : World} {B e size n : Nat} {v : Value} {xs : List Value} (h : w.ownsRow B e size v n xs) : ∃ a cap, v = .slice a n cap := by
  rcases h.2 with ⟨hv, h0⟩ | ⟨g, cap, cur, hv, _⟩
  · subst h0; exact ⟨none, 0, hv⟩
  · exact ⟨_, cap, hv⟩

theorem taken_more {w W w3 : World} {v v3 : Value} {o : Obj} {S : ByteArray} {t : List UInt8} {c : UInt8} {k : Nat} (hown : W.ownsRow w.heap.size 5 1 v t.length (Lib.byteCells t)) (hit : W.heap[w.heap.size]? = some (.stringIter S k)) (hbw : Below w.heap.size w W)
    (hgrow : (W.alloc o).grownBy w3 v.ownBlock) (hown3 : w3.ownsRow w.heap.size 5 1 v3 (t.length + 1) (Lib.byteCells t ++ [.int .u8 c.toNat])) :
    Below w.heap.size w w3 ∧ w3.heap[w.heap.size]? = some (.stringIter S k) ∧ w3.ownsRow w.heap.size 5 1 v3 (t ++ [c]).length (Lib.byteCells (t ++ [c])) := by
  have hlt : w.heap.size < W.heap.size := (Array.getElem?_eq_some_iff.1 hit).1
  refine ⟨(hbw.alloc (by omega) _).grown hgrow (by simp; omega) (fun k hk => (hown.lt k hk).1), ?_, ?_⟩
  · rw [hgrow.block w.heap.size (by simp; omega) (row_not_iter hown hit), Below.heap_alloc _ _ _ hlt, hit]
  · rw [Lib.byteCells_append, List.length_append]; exact hown3

/- what a round keeps: how far the iterator is, what has been taken, whether a backslash is open -/
def Taken (s S : ByteArray) (w : World) (v o : Value) (wr : World) : Prop :=
  ∃ (k : Nat) (t : List UInt8) (b : Bool), o = .bool b ∧ wr.ownsRow w.heap.size 5 1 v t.length (Lib.byteCells t) ∧ wr.heap[w.heap.size]? = some (.stringIter S k) ∧ Below w.heap.size w wr ∧ k ≤ S.size ∧ t.length ≤ 4096 ∧
    Hid (unquoteS s.data.toList = unq (S.data.toList.drop k) t b k)

set_option maxRecDepth 100000 in
set_option maxHeartbeats 1000000 in
theorem unquote_calls (s : ByteArray) (w : World) (hs : s.size ≤ 281474976710656) (h1 : 1 ≤ s.size) :
    Calls Tryd.prog 54 #[.string s] w fun e w' => e = .returned (.tuple #[.string (bs (unquoteS s.data.toList).1), .int .i64 (unquoteS s.data.toList).2]) ∧ Below w.heap.size w w' := by
  obtain ⟨i0, hi, hz0, hz1, hz2⟩ := info_parts info_byte
  have HU := Lib.hid (show unquoteS s.data.toList = unq ((s.extract 1 s.size).data.toList.drop 0) [] false 0 by rw [drop_bs s 1, bs_data]; rfl)
  have hS1 : (s.extract 1 s.size).size ≤ 281474976710656 := by rw [drop_bs s 1, bs_size, List.length_drop, ← Lib.size_eq]; omega
  obtain ⟨S, hS⟩ : ∃ S, s.extract 1 s.size = S := ⟨_, rfl⟩
  rw [hS] at HU hS1
  go_enter Tryd.func54, Tryd.ntmps54
  go_wp2
  clear hS
  go_loopw [4, 5] (fun v o wr => Taken s S w v o wr) (fun _ _ wr => S.size - wr.iterPos w.heap.size)
  case atStart => exact ⟨0, [], false, rfl, World.ownsRow_nil _ _ _ _, World.iter_heap w S 0, iter_below _ _ _, Nat.zero_le _, Nat.zero_le _, HU⟩
  case round =>
    obtain ⟨k, t, b, rfl, hown, hit, hbw, hk, ht, HT⟩ := hrel
    have hsz : w.heap.size < wr.heap.size := (Array.getElem?_eq_some_iff.1 hit).1
    by_cases hp : k < S.size
    · have hnx : ∀ ty, (Instr.next (.pointer (some ⟨w.heap.size, 0, none⟩)) true ty).run Tryd.prog wr = _ := fun ty => Lib.run_next_any_at wr w.heap.size S k ty hit hp
      have hr := rune_of S k hp
      have hl : k < S.data.toList.length := by simpa using hp
      have hd : 1 ≤ (Utf8.decode S k).2 := width_pos S k hp
      have hown2 := row_iter hown hit (k + (Utf8.decode S k).2)
      have hit2 := Lib.iterAt_heap wr w.heap.size S k (k + (Utf8.decode S k).2) hit
      have hbw2 := Lib.below_iterAt hbw (k := w.heap.size) (Nat.le_refl _) S (k + (Utf8.decode S k).2)
      have hsz2 : w.heap.size < (wr.iterAt w.heap.size S (k + (Utf8.decode S k).2)).heap.size := by rw [Lib.iterAt_size]; exact hsz
      generalize ((Utf8.decode S k).1 : Int) = r at hr hnx
      generalize (Utf8.decode S k).2 = d at hr hd hnx hown2 hit2 hbw2 hsz2
      obtain ⟨W2, hW2⟩ : ∃ W2, wr.iterAt w.heap.size S (k + d) = W2 := ⟨_, rfl⟩
      rw [hW2] at hnx hown2 hit2 hbw2 hsz2
      clear hown hbw hsz hW2
      have HI := Lib.hid hit
      have HI2 := Lib.hid hit2
      clear hit hit2
      cases b with
      | true =>
        by_cases he : (escZ r).2 = true
        · have hlow : ¬ 128 ≤ r := fun h => by rw [escZ_high h] at he; cases he
          obtain ⟨hrb, rfl⟩ := hr.resolve_right fun h => hlow h.1
          obtain ⟨c, hc⟩ : ∃ c, escB S.data.toList[k] = some c := by
            cases hc : escB S.data.toList[k] with
            | some c => exact ⟨c, rfl⟩
            | none => rw [hrb, escZ_none hc] at he; cases he
          have hz1' : (escZ r).1 = (c.toNat : Int) := by rw [hrb, (escZ_some hc).1]
          have hc256 : c.toNat < 256 := c.toNat_lt
          have h0 := unq_esc S.data.toList t k hl hc
          have H0 := Lib.hid h0
          clear h0 hr hrb hc hlow
          go_wp2_with (first | (go_at_call 67; refine (escaped_calls _ _).mono ?_; rintro e w' ⟨rfl, hw⟩; obtain rfl := hw.symm) | (at_builtin; go_must (refine wpList_append_own _ rfl (.tmp 31) (.tmp 33) 69 rfl w.heap.size 5 i0 (.int .u8 0) 1 1 Tryd.underlying69 hi hz0 hz1 hz2 rfl (by decide) _ _ _ rfl (hown2.alloc _) ⟨W2.heap.size, 0, none⟩ 1 1 [.int .u8 c.toNat] rfl rfl (cell_one_new _ _ _) (by intro u hu; simp at hu; subst hu; rfl) (by unfold maxLen; omega) (by omega) (by simp; omega) ?_; intro v3 w3 hown3 hgrow3 hnil3; obtain ⟨g3, cap3, hv3⟩ := row_some hown3; subst hv3; have HN3 := Lib.hid hnil3; clear hnil3; have HO3 := Lib.hid hown3; clear hown3; have HG3 := Lib.hid hgrow3; clear hgrow3)))
          all_goals obtain ⟨hb3, hi3, ho3⟩ := taken_more hown2 HI2.out hbw2 HG3.out HO3.out
          · go_ret2
            exact ⟨by rw [HT.out, H0.out, if_pos (by omega)]; rfl, hb3⟩
          · refine ⟨⟨k + 1, t ++ [c], false, rfl, ho3, hi3, hb3, by omega, by simp; omega, Lib.hid (by rw [HT.out, H0.out, if_neg (by omega)])⟩, ?_⟩
            simp only [World.iterPos, hi3, HI.out]
            omega
        · have he' : (escZ r).2 = false := by simpa using he
          clear he
          have h0 := unq_esc_no S.data.toList t k hl (by
            cases hc : escB S.data.toList[k] with
            | none => rfl
            | some c =>
              have := escZ_some hc
              rcases hr with h | h
              · rw [h.1, this.1] at he'; cases he'
              · omega)
          have H0 := Lib.hid h0
          clear h0 hr
          go_wp2_with (go_at_call 67; refine (escaped_calls _ _).mono ?_; rintro e w' ⟨rfl, rfl⟩)
          go_ret2
          exact ⟨by rw [HT.out, H0.out]; rfl, hbw2⟩
      | false =>
        by_cases e34 : r = 34
        · obtain ⟨hrb, rfl⟩ := hr.resolve_right fun h => by omega
          have H0 := Lib.hid (unq_close S.data.toList t k hl (by omega))
          clear hr hrb
          subst e34
          have hcv := convert_own hown2
          go_wp2
          go_ret2
          exact ⟨by rw [HT.out, H0.out]; exact ret_si rfl (by simp), hbw2⟩
        · have g34 : (r == 34) = false := beq_eq_false_iff_ne.2 e34
          by_cases e92 : r = 92
          · obtain ⟨hrb, rfl⟩ := hr.resolve_right fun h => by omega
            have H0 := Lib.hid (unq_open S.data.toList t k hl (by omega))
            clear hr hrb
            subst e92
            obtain ⟨av, cv, rfl⟩ := row_slice hown2
            go_wp2
            refine ⟨⟨k + 1, t, true, rfl, hown2, HI2.out, hbw2, by omega, ht, Lib.hid (by rw [HT.out, H0.out])⟩, ?_⟩
            simp only [World.iterPos, HI2.out, HI.out]
            omega
          · have g92 : (r == 92) = false := beq_eq_false_iff_ne.2 e92
            have E92 := Lib.hid e92
            have E34 := Lib.hid e34
            clear e92 e34
            by_cases hbad : r < 32 ∨ litZ r = false
            · have H0 := Lib.hid (unq_bad S.data.toList t k hl (by rcases hr with h | h <;> have := E34.out <;> omega) (by rcases hr with h | h <;> have := E92.out <;> omega) (by
                rcases hr with h | h
                · rw [← h.1]; exact hbad
                · exact .inr (lit_high h.2)))
              clear hr
              by_cases h32 : r < 32
              · clear hbad
                go_wp2
                go_ret2
                exact ⟨by rw [HT.out, H0.out]; rfl, hbw2⟩
              · have hlit : litZ r = false := hbad.resolve_left h32
                clear hbad
                go_wp2_with (go_at_call 68; refine (isLiteralByte_calls _ _).mono ?_; rintro e w' ⟨rfl, hw⟩; obtain rfl := hw.symm)
                go_ret2
                exact ⟨by rw [HT.out, H0.out]; rfl, hbw2⟩
            · have h32 : ¬ r < 32 := fun h => hbad (.inl h)
              have hlit : litZ r = true := by
                cases e : litZ r with
                | true => rfl
                | false => exact absurd (.inr e) hbad
              clear hbad
              have hlow : ¬ 128 ≤ r := fun h => by rw [lit_high h] at hlit; cases hlit
              obtain ⟨hrb, rfl⟩ := hr.resolve_right fun h => hlow h.1
              clear hr
              have H0 := Lib.hid (unq_take S.data.toList t k hl (by have := E34.out; omega) (by have := E92.out; omega) (by omega) (by rw [← hrb]; exact hlit))
              generalize S.data.toList[k] = c at hrb H0
              have hc256 : c.toNat < 256 := c.toNat_lt
              subst hrb
              go_wp2_with (first | (go_at_call 68; refine (isLiteralByte_calls _ _).mono ?_; rintro e w' ⟨rfl, hw⟩; obtain rfl := hw.symm) | (at_builtin; go_must (refine wpList_append_own _ rfl (.tmp 17) (.tmp 20) 69 rfl w.heap.size 5 i0 (.int .u8 0) 1 1 Tryd.underlying69 hi hz0 hz1 hz2 rfl (by decide) _ _ _ rfl (hown2.alloc _) ⟨W2.heap.size, 0, none⟩ 1 1 [.int .u8 c.toNat] rfl rfl (cell_one_new _ _ _) (by intro u hu; simp at hu; subst hu; rfl) (by unfold maxLen; omega) (by omega) (by simp; omega) ?_; intro v3 w3 hown3 hgrow3 hnil3; obtain ⟨g3, cap3, hv3⟩ := row_some hown3; subst hv3; have HN3 := Lib.hid hnil3; clear hnil3; have HO3 := Lib.hid hown3; clear hown3; have HG3 := Lib.hid hgrow3; clear hgrow3)))
              all_goals obtain ⟨hb3, hi3, ho3⟩ := taken_more hown2 HI2.out hbw2 HG3.out HO3.out
              · go_ret2
                exact ⟨by rw [HT.out, H0.out, if_pos (by omega)]; rfl, hb3⟩
              · refine ⟨⟨k + 1, t ++ [c], false, rfl, ho3, hi3, hb3, by omega, by simp; omega, Lib.hid (by rw [HT.out, H0.out, if_neg (by omega)])⟩, ?_⟩
                simp only [World.iterPos, hi3, HI.out]
                omega
    · have hnx : ∀ ty, (Instr.next (.pointer (some ⟨w.heap.size, 0, none⟩)) true ty).run Tryd.prog wr = _ := fun ty => Lib.run_next_end_at wr w.heap.size S k ty hit hp
      have h0 := Lib.hid (unq_end t b S.data.toList k (by simpa using (by omega : S.size ≤ k)))
      clear hit
      go_wp2
      go_ret2
      exact ⟨by rw [HT.out, h0.out]; rfl, hbw⟩

end Go.Proofs.YtkejninogmphhaaDoor
