/- The triples whose text a text is, line by line: package triples' Read, for every text. -/
import Derived.Test.YthdhoaihmlodjaaTripMid
namespace Go.Proofs.Ythdhoaihmlodjaa
open Go.RowKit

theorem info_triple : (Try.prog.info? 25).map (fun i => (i.zero, i.size, i.bytes)) = some (some noTrip.v, 12, 168) := by kernel_rfl

/- what Read leaves -/
def ReadT (w : World) (l : List UInt8) (e : Ending) (w' : World) : Prop :=
  ∃ v, e = .returned (.tuple #[v, .int .i64 (ansS l).2.1, .int .i64 (ansS l).2.2]) ∧ w'.ownsRow w.heap.size 25 12 v (ansS l).1.length (tripCells (ansS l).1) ∧ Below w.heap.size w w'
theorem read_bad {w w' : World} {l R : List UInt8} {T : List TripL} (h : Off l T R) (hl : lineS R = none) (hR : R ≠ []) (hb : Below w.heap.size w w') :
    ReadT w l (.returned (.tuple #[.slice none 0 0, .int .i64 ((T.length : Int) + 1), .int .i64 2])) w' := by
  unfold ReadT
  rw [off_len h hl hR]
  exact ⟨_, rfl, World.ownsRow_nil _ _ _ _, hb⟩
theorem read_long {w w' : World} {l : List UInt8} {T : List TripL} (h : Off l T []) (hl : 4096 < T.length) (hb : Below w.heap.size w w') :
    ReadT w l (.returned (.tuple #[.slice none 0 0, .int .i64 0, .int .i64 3])) w' := by
  unfold ReadT
  rw [off_long h hl]
  exact ⟨_, rfl, World.ownsRow_nil _ _ _ _, hb⟩
theorem read_all {w w' : World} {l : List UInt8} {T : List TripL} {v : Value} (h : Off l T []) (hl : T.length ≤ 4096) (hv : w'.ownsRow w.heap.size 25 12 v (T.take 4096).length (tripCells (T.take 4096))) (hb : Below w.heap.size w w') :
    ReadT w l (.returned (.tuple #[v, .int .i64 0, .int .i64 0])) w' := by
  unfold ReadT
  rw [off_all h hl]
  rw [List.take_of_length_le hl] at hv
  exact ⟨v, rfl, hv, hb⟩

/- what an outer round keeps: the triples so far, what is left -/
def Outer (w : World) (s : List UInt8) (g : Nat) (v r c : Value) (wr : World) : Prop :=
  ∃ (T : List TripL) (R : ByteArray), r = .string R ∧ c = .int .i64 T.length ∧ wr.ownsRow w.heap.size 25 12 v (T.take 4096).length (tripCells (T.take 4096)) ∧ Below w.heap.size w wr ∧
    Hid (Off s T R.data.toList) ∧ T.length + R.size ≤ s.length ∧ R.size ≤ g
def TripL.short (t : TripL) (n : Nat) : Prop := t.s.short n ∧ t.p.short n ∧ t.o.short n
theorem trip_ok {t : TripL} {n : Nat} (h : t.short n) (hn : n ≤ 281474976710656) : t.ok := ⟨h.1.ok hn, h.2.1.ok hn, h.2.2.ok hn⟩
/- what an inner round keeps: how many terms are taken off, in which block they stand -/
def Inner (wr : World) (R : List UInt8) (N g : Nat) (i l : Value) (wy : World) : Prop :=
  ∃ (n : Nat) (S : ByteArray) (t : TripL), n + g = 3 ∧ i = .int .i64 n ∧ l = .string S ∧ Hid (Mid n R S.data.toList t) ∧ S.size ≤ R.length ∧ Blk wy wr.heap.size 45 (cells12 t) ∧ Below wr.heap.size wr wy ∧ Hid (t.short N)

/- a triple's cells in a block that has just been made -/
theorem news12 (W : World) (T : TypeId) (a b c d e f g h i j k l : Value) : ∀ n u, [a, b, c, d, e, f, g, h, i, j, k, l][n]? = some u → (W.alloc (.cells #[a, b, c, d, e, f, g, h, i, j, k, l] T)).cell? ((⟨W.heap.size, 0, none⟩ : Addr).add n) = some u := by
  intro n u hu
  have e1 : ((⟨W.heap.size, 0, none⟩ : Addr).add n) = ⟨W.heap.size, n, none⟩ := by
    cases n with
    | zero => simp [Addr.add]
    | succ n => simp [Addr.add]
  rw [e1, blk_cell (blk_new W T _)]
  simpa using hu

set_option maxRecDepth 100000 in
set_option maxHeartbeats 8000000 in
theorem tRead_calls (s : ByteArray) (w : World) (hs : s.size ≤ 281474976710656) : Calls Try.prog 15 #[.string s] w (ReadT w s.data.toList) := by
  obtain ⟨i0, hi, hz0, hz1, hz2⟩ := info_parts info_triple
  have hsl : s.data.toList.length = s.size := (Lib.size_eq s).symm
  have HSL := Lib.hid hsl
  clear hsl
  go_enter Try.func15, Try.ntmps15
  go_wp2
  go_step3
  go_wp2
  go_step3
  go_wp2
  go_loopg [5, 6, 7] s.size (fun g v r c wr => Outer w s.data.toList g v r c wr)
  case atStart => exact ⟨[], s, rfl, rfl, World.ownsRow_nil _ _ _ _, Below.refl _ _, off_start _, by rw [HSL.out]; simp, Nat.le_refl _⟩
  case round =>
    obtain ⟨W1, rfl⟩ : ∃ W1, W1 = wr := ⟨_, rfl⟩
    obtain ⟨G1, rfl⟩ : ∃ G1, G1 = gk := ⟨_, rfl⟩
    obtain ⟨T, R, rfl, rfl, hown, hbw, hoff, hlen, hg⟩ := hrel
    rw [HSL.out] at hlen
    by_cases hR : R.toList = []
    · have HRE := Lib.hid (show R.data.toList = [] by rw [← Lib.toList_data]; exact hR)
      rw [HRE.out] at hoff
      by_cases h4 : 4096 < T.length
      · go_wp2
        rw [Exit.noGoto_ret]
        refine bodyPost_ret (v := .tuple #[.slice none 0 0, .int .i64 0, .int .i64 3]) (by simp [results, Try.results15, go_sem]) rfl (read_long hoff.out h4 hbw)
      · go_wp2
        rw [Exit.noGoto_ret]
        refine bodyPost_ret (by simp [results, Try.results15, go_sem]) rfl (read_all hoff.out (by omega) hown hbw)
    · have hE : R.toList.isEmpty = false := by simpa using hR
      have HRN := Lib.hid (show R.data.toList ≠ [] by rw [← Lib.toList_data]; exact hR)
      clear hR
      go_wp2
      go_loopg [8, 19] 3 (fun g l i wy => Inner W1 R.data.toList s.size g i l wy)
      case atStart => exact ⟨0, R, noTrip, rfl, rfl, rfl, .inl ⟨rfl, rfl, rfl⟩, by rw [← Lib.size_eq]; exact Nat.le_refl _, blk_new _ _ _, box_below _ _, ⟨short_none _, short_none _, short_none _⟩⟩
      case round =>
        obtain ⟨wy, rfl⟩ : ∃ wy, wy = wr := ⟨_, rfl⟩
        obtain ⟨n, S, t, hng, rfl, rfl, hmid, hS, hblk, hby, htok⟩ := hrel
        rw [← Lib.size_eq] at hS
        rcases (by omega : n = 0 ∨ n = 1 ∨ n = 2 ∨ n = 3) with rfl | rfl | rfl | rfl
        · obtain ⟨⟨ak, ax, ay, az⟩, ⟨bk, bx, by', bz⟩, ⟨ck, cx, cy, cz⟩⟩ := t
          obtain ⟨p, hp⟩ : ∃ p, prefixS S.data.toList = p := ⟨_, rfl⟩
          have hle : p.2 ≤ S.size := by rw [← hp, Lib.size_eq]; exact prefixS_length _
          have HSH := Lib.hid (show p.1.short s.size from by rw [← hp]; have := prefix_short' S.data.toList; rw [← Lib.size_eq] at this; exact ⟨by have := this.1; omega, by have := this.2.1; omega, by have := this.2.2; omega⟩)
          have HP := Lib.hid hp
          obtain ⟨⟨a, fx, fy, fz⟩, m⟩ := p
          dsimp only at hle HSH
          clear hp
          go_wp2_with fail
          refine (Prefix_calls S _ (by omega)).mono ?_
          rintro e w1 ⟨rfl, hb1⟩
          rw [HP.out]
          simp only [TermL.v]
          have hX := blk_lt hblk
          have hblk1 := blk_on hblk hb1 hX
          have hby1 : Below W1.heap.size W1 w1 := hby.trans (hb1.mono hby.size)
          clear hblk hby hb1 hX
          have q0 : w1.cell? ⟨W1.heap.size, 0, none⟩ = some (.int .i64 ak) := by rw [blk_cell hblk1]; rfl
          have q1 : w1.cell? ⟨W1.heap.size, 1, none⟩ = some (.string (bs ax)) := by rw [blk_cell hblk1]; rfl
          have q2 : w1.cell? ⟨W1.heap.size, 2, none⟩ = some (.string (bs ay)) := by rw [blk_cell hblk1]; rfl
          have q3 : w1.cell? ⟨W1.heap.size, 3, none⟩ = some (.string (bs az)) := by rw [blk_cell hblk1]; rfl
          have fr := fun i => blk_free hblk1 i
          have HB := Lib.hid hblk1
          clear hblk1
          have hbw5 : ∀ a b c d : Value, Below w.heap.size w ((((w1.setCell ⟨W1.heap.size, 0, none⟩ a).setCell ⟨W1.heap.size, 1, none⟩ b).setCell ⟨W1.heap.size, 2, none⟩ c).setCell ⟨W1.heap.size, 3, none⟩ d) := fun a b c d => below_set (below_set (below_set (below_set (hbw.trans (hby1.mono hbw.size)) hbw.size _ _) hbw.size _ _) hbw.size _ _) hbw.size _ _
          have HBW5 := Lib.hid hbw5
          clear hbw5
          by_cases hm : m = 0
          · have g0 : ((m : Int) == 0) = true := beq_iff_eq.2 (by omega)
            have HN := Lib.hid (show lineS R.data.toList = none from mid_none hmid.out (by omega) (take_none0 (by rw [HP.out]; exact hm)))
            clear hm
            go_wp2
            (try rw [Exit.noGoto_ret])
            refine bodyPost_ret (v := .tuple #[.slice none 0 0, .int .i64 ((T.length : Int) + 1), .int .i64 2]) (by simp [results, Try.results15, go_sem]) rfl ?_
            exact read_bad hoff.out HN.out HRN.out (HBW5.out _ _ _ _)
          · have g0 : ((m : Int) == 0) = false := beq_eq_false_iff_ne.2 (by omega)
            cases hpf : Lib.hasPrefix (S.data.toList.drop m) [32] with
            | false =>
              have HN := Lib.hid (show lineS R.data.toList = none from mid_none hmid.out (by omega) (take_none1 (by rw [HP.out]; exact hpf)))
              have HPF := Lib.hid hpf
              clear hm hpf
              go_wp2_with fail
              rw [drop_bs S m]
              refine (Try.strings_HasPrefix _ _ _).mono ?_
              rintro e wn ⟨rfl, hwn⟩
              subst hwn
              rw [bs_data, show (⟨#[32]⟩ : ByteArray).data.toList = [32] from rfl, HPF.out]
              go_wp2
              (try rw [Exit.noGoto_ret])
              refine bodyPost_ret (v := .tuple #[.slice none 0 0, .int .i64 ((T.length : Int) + 1), .int .i64 2]) (by simp [results, Try.results15, go_sem]) rfl ?_
              exact read_bad hoff.out HN.out HRN.out (HBW5.out _ _ _ _)
            | true =>
              have hts := take_some (L := S.data.toList) (by rw [HP.out]; exact hm) (by rw [HP.out]; exact hpf)
              have hms : m + 1 ≤ S.size := by
                have := hp_cons1 _ _ hpf
                obtain ⟨u, hu⟩ := this
                have := congrArg List.length hu
                rw [List.length_drop, List.length_cons] at this
                rw [Lib.size_eq]; omega
              rw [HP.out] at hts
              have HMID := Lib.hid (mid_next0 hmid.out hts)
              have HPF := Lib.hid hpf
              clear hm hpf hts
              go_wp2_with fail
              rw [drop_bs S m]
              refine (Try.strings_HasPrefix _ _ _).mono ?_
              rintro e wn ⟨rfl, hwn⟩
              subst hwn
              rw [bs_data, show (⟨#[32]⟩ : ByteArray).data.toList = [32] from rfl, HPF.out]
              go_wp2
              go_roundg 2
              case measure => omega
              case rel => exact ⟨1, S.extract (m + 1) S.size, ⟨⟨a, fx, fy, fz⟩, ⟨bk, bx, by', bz⟩, ⟨ck, cx, cy, cz⟩⟩, by omega, by go_num, rfl, by rw [drop_bs S (m + 1), bs_data]; exact HMID, by rw [drop_bs S (m + 1), bs_size, List.length_drop]; have := Lib.size_eq S; have := Lib.size_eq R; omega, blk_set (blk_set (blk_set (blk_set HB.out _ _) _ _) _ _) _ _, below_set (below_set (below_set (below_set hby1 (Nat.le_refl _) _ _) (Nat.le_refl _) _ _) (Nat.le_refl _) _ _) (Nat.le_refl _) _ _, ⟨HSH.out, htok.out.2.1, htok.out.2.2⟩⟩
        · obtain ⟨⟨ak, ax, ay, az⟩, ⟨bk, bx, by', bz⟩, ⟨ck, cx, cy, cz⟩⟩ := t
          obtain ⟨p, hp⟩ : ∃ p, prefixS S.data.toList = p := ⟨_, rfl⟩
          have hle : p.2 ≤ S.size := by rw [← hp, Lib.size_eq]; exact prefixS_length _
          have HSH := Lib.hid (show p.1.short s.size from by rw [← hp]; have := prefix_short' S.data.toList; rw [← Lib.size_eq] at this; exact ⟨by have := this.1; omega, by have := this.2.1; omega, by have := this.2.2; omega⟩)
          have HP := Lib.hid hp
          obtain ⟨⟨a, fx, fy, fz⟩, m⟩ := p
          dsimp only at hle HSH
          clear hp
          go_wp2_with fail
          refine (Prefix_calls S _ (by omega)).mono ?_
          rintro e w1 ⟨rfl, hb1⟩
          rw [HP.out]
          simp only [TermL.v]
          have hX := blk_lt hblk
          have hblk1 := blk_on hblk hb1 hX
          have hby1 : Below W1.heap.size W1 w1 := hby.trans (hb1.mono hby.size)
          clear hblk hby hb1 hX
          have q0 : w1.cell? ⟨W1.heap.size, 4, none⟩ = some (.int .i64 bk) := by rw [blk_cell hblk1]; rfl
          have q1 : w1.cell? ⟨W1.heap.size, 5, none⟩ = some (.string (bs bx)) := by rw [blk_cell hblk1]; rfl
          have q2 : w1.cell? ⟨W1.heap.size, 6, none⟩ = some (.string (bs by')) := by rw [blk_cell hblk1]; rfl
          have q3 : w1.cell? ⟨W1.heap.size, 7, none⟩ = some (.string (bs bz)) := by rw [blk_cell hblk1]; rfl
          have fr := fun i => blk_free hblk1 i
          have HB := Lib.hid hblk1
          clear hblk1
          have hbw5 : ∀ a b c d : Value, Below w.heap.size w ((((w1.setCell ⟨W1.heap.size, 4, none⟩ a).setCell ⟨W1.heap.size, 5, none⟩ b).setCell ⟨W1.heap.size, 6, none⟩ c).setCell ⟨W1.heap.size, 7, none⟩ d) := fun a b c d => below_set (below_set (below_set (below_set (hbw.trans (hby1.mono hbw.size)) hbw.size _ _) hbw.size _ _) hbw.size _ _) hbw.size _ _
          have HBW5 := Lib.hid hbw5
          clear hbw5
          by_cases hm : m = 0
          · have g0 : ((m : Int) == 0) = true := beq_iff_eq.2 (by omega)
            have HN := Lib.hid (show lineS R.data.toList = none from mid_none hmid.out (by omega) (take_none0 (by rw [HP.out]; exact hm)))
            clear hm
            go_wp2
            (try rw [Exit.noGoto_ret])
            refine bodyPost_ret (v := .tuple #[.slice none 0 0, .int .i64 ((T.length : Int) + 1), .int .i64 2]) (by simp [results, Try.results15, go_sem]) rfl ?_
            exact read_bad hoff.out HN.out HRN.out (HBW5.out _ _ _ _)
          · have g0 : ((m : Int) == 0) = false := beq_eq_false_iff_ne.2 (by omega)
            cases hpf : Lib.hasPrefix (S.data.toList.drop m) [32] with
            | false =>
              have HN := Lib.hid (show lineS R.data.toList = none from mid_none hmid.out (by omega) (take_none1 (by rw [HP.out]; exact hpf)))
              have HPF := Lib.hid hpf
              clear hm hpf
              go_wp2_with fail
              rw [drop_bs S m]
              refine (Try.strings_HasPrefix _ _ _).mono ?_
              rintro e wn ⟨rfl, hwn⟩
              subst hwn
              rw [bs_data, show (⟨#[32]⟩ : ByteArray).data.toList = [32] from rfl, HPF.out]
              go_wp2
              (try rw [Exit.noGoto_ret])
              refine bodyPost_ret (v := .tuple #[.slice none 0 0, .int .i64 ((T.length : Int) + 1), .int .i64 2]) (by simp [results, Try.results15, go_sem]) rfl ?_
              exact read_bad hoff.out HN.out HRN.out (HBW5.out _ _ _ _)
            | true =>
              have hts := take_some (L := S.data.toList) (by rw [HP.out]; exact hm) (by rw [HP.out]; exact hpf)
              have hms : m + 1 ≤ S.size := by
                have := hp_cons1 _ _ hpf
                obtain ⟨u, hu⟩ := this
                have := congrArg List.length hu
                rw [List.length_drop, List.length_cons] at this
                rw [Lib.size_eq]; omega
              rw [HP.out] at hts
              have HMID := Lib.hid (mid_next1 hmid.out hts)
              have HPF := Lib.hid hpf
              clear hm hpf hts
              go_wp2_with fail
              rw [drop_bs S m]
              refine (Try.strings_HasPrefix _ _ _).mono ?_
              rintro e wn ⟨rfl, hwn⟩
              subst hwn
              rw [bs_data, show (⟨#[32]⟩ : ByteArray).data.toList = [32] from rfl, HPF.out]
              go_wp2
              go_roundg 1
              case measure => omega
              case rel => exact ⟨2, S.extract (m + 1) S.size, ⟨⟨ak, ax, ay, az⟩, ⟨a, fx, fy, fz⟩, ⟨ck, cx, cy, cz⟩⟩, by omega, by go_num, rfl, by rw [drop_bs S (m + 1), bs_data]; exact HMID, by rw [drop_bs S (m + 1), bs_size, List.length_drop]; have := Lib.size_eq S; have := Lib.size_eq R; omega, blk_set (blk_set (blk_set (blk_set HB.out _ _) _ _) _ _) _ _, below_set (below_set (below_set (below_set hby1 (Nat.le_refl _) _ _) (Nat.le_refl _) _ _) (Nat.le_refl _) _ _) (Nat.le_refl _) _ _, ⟨htok.out.1, HSH.out, htok.out.2.2⟩⟩
        · obtain ⟨⟨ak, ax, ay, az⟩, ⟨bk, bx, by', bz⟩, ⟨ck, cx, cy, cz⟩⟩ := t
          obtain ⟨p, hp⟩ : ∃ p, prefixS S.data.toList = p := ⟨_, rfl⟩
          have hle : p.2 ≤ S.size := by rw [← hp, Lib.size_eq]; exact prefixS_length _
          have HSH := Lib.hid (show p.1.short s.size from by rw [← hp]; have := prefix_short' S.data.toList; rw [← Lib.size_eq] at this; exact ⟨by have := this.1; omega, by have := this.2.1; omega, by have := this.2.2; omega⟩)
          have HP := Lib.hid hp
          obtain ⟨⟨a, fx, fy, fz⟩, m⟩ := p
          dsimp only at hle HSH
          clear hp
          go_wp2_with fail
          refine (Prefix_calls S _ (by omega)).mono ?_
          rintro e w1 ⟨rfl, hb1⟩
          rw [HP.out]
          simp only [TermL.v]
          have hX := blk_lt hblk
          have hblk1 := blk_on hblk hb1 hX
          have hby1 : Below W1.heap.size W1 w1 := hby.trans (hb1.mono hby.size)
          clear hblk hby hb1 hX
          have q0 : w1.cell? ⟨W1.heap.size, 8, none⟩ = some (.int .i64 ck) := by rw [blk_cell hblk1]; rfl
          have q1 : w1.cell? ⟨W1.heap.size, 9, none⟩ = some (.string (bs cx)) := by rw [blk_cell hblk1]; rfl
          have q2 : w1.cell? ⟨W1.heap.size, 10, none⟩ = some (.string (bs cy)) := by rw [blk_cell hblk1]; rfl
          have q3 : w1.cell? ⟨W1.heap.size, 11, none⟩ = some (.string (bs cz)) := by rw [blk_cell hblk1]; rfl
          have fr := fun i => blk_free hblk1 i
          have HB := Lib.hid hblk1
          clear hblk1
          have hbw5 : ∀ a b c d : Value, Below w.heap.size w ((((w1.setCell ⟨W1.heap.size, 8, none⟩ a).setCell ⟨W1.heap.size, 9, none⟩ b).setCell ⟨W1.heap.size, 10, none⟩ c).setCell ⟨W1.heap.size, 11, none⟩ d) := fun a b c d => below_set (below_set (below_set (below_set (hbw.trans (hby1.mono hbw.size)) hbw.size _ _) hbw.size _ _) hbw.size _ _) hbw.size _ _
          have HBW5 := Lib.hid hbw5
          clear hbw5
          by_cases hm : m = 0
          · have g0 : ((m : Int) == 0) = true := beq_iff_eq.2 (by omega)
            have HN := Lib.hid (show lineS R.data.toList = none from mid_none hmid.out (by omega) (take_none0 (by rw [HP.out]; exact hm)))
            clear hm
            go_wp2
            (try rw [Exit.noGoto_ret])
            refine bodyPost_ret (v := .tuple #[.slice none 0 0, .int .i64 ((T.length : Int) + 1), .int .i64 2]) (by simp [results, Try.results15, go_sem]) rfl ?_
            exact read_bad hoff.out HN.out HRN.out (HBW5.out _ _ _ _)
          · have g0 : ((m : Int) == 0) = false := beq_eq_false_iff_ne.2 (by omega)
            cases hpf : Lib.hasPrefix (S.data.toList.drop m) [32] with
            | false =>
              have HN := Lib.hid (show lineS R.data.toList = none from mid_none hmid.out (by omega) (take_none1 (by rw [HP.out]; exact hpf)))
              have HPF := Lib.hid hpf
              clear hm hpf
              go_wp2_with fail
              rw [drop_bs S m]
              refine (Try.strings_HasPrefix _ _ _).mono ?_
              rintro e wn ⟨rfl, hwn⟩
              subst hwn
              rw [bs_data, show (⟨#[32]⟩ : ByteArray).data.toList = [32] from rfl, HPF.out]
              go_wp2
              (try rw [Exit.noGoto_ret])
              refine bodyPost_ret (v := .tuple #[.slice none 0 0, .int .i64 ((T.length : Int) + 1), .int .i64 2]) (by simp [results, Try.results15, go_sem]) rfl ?_
              exact read_bad hoff.out HN.out HRN.out (HBW5.out _ _ _ _)
            | true =>
              have hts := take_some (L := S.data.toList) (by rw [HP.out]; exact hm) (by rw [HP.out]; exact hpf)
              have hms : m + 1 ≤ S.size := by
                have := hp_cons1 _ _ hpf
                obtain ⟨u, hu⟩ := this
                have := congrArg List.length hu
                rw [List.length_drop, List.length_cons] at this
                rw [Lib.size_eq]; omega
              rw [HP.out] at hts
              have HMID := Lib.hid (mid_next2 hmid.out hts)
              have HPF := Lib.hid hpf
              clear hm hpf hts
              go_wp2_with fail
              rw [drop_bs S m]
              refine (Try.strings_HasPrefix _ _ _).mono ?_
              rintro e wn ⟨rfl, hwn⟩
              subst hwn
              rw [bs_data, show (⟨#[32]⟩ : ByteArray).data.toList = [32] from rfl, HPF.out]
              go_wp2
              go_roundg 0
              case measure => omega
              case rel => exact ⟨3, S.extract (m + 1) S.size, ⟨⟨ak, ax, ay, az⟩, ⟨bk, bx, by', bz⟩, ⟨a, fx, fy, fz⟩⟩, by omega, by go_num, rfl, by rw [drop_bs S (m + 1), bs_data]; exact HMID, by rw [drop_bs S (m + 1), bs_size, List.length_drop]; have := Lib.size_eq S; have := Lib.size_eq R; omega, blk_set (blk_set (blk_set (blk_set HB.out _ _) _ _) _ _) _ _, below_set (below_set (below_set (below_set hby1 (Nat.le_refl _) _ _) (Nat.le_refl _) _ _) (Nat.le_refl _) _ _) (Nat.le_refl _) _ _, ⟨htok.out.1, htok.out.2.1, HSH.out⟩⟩
        · obtain ⟨⟨ak, ax, ay, az⟩, ⟨bk, bx, by', bz⟩, ⟨ck, cx, cy, cz⟩⟩ := t
          have hX := blk_lt hblk
          have q0 : wy.cell? ⟨W1.heap.size, 0, none⟩ = some (.int .i64 ak) := by rw [blk_cell hblk]; rfl
          have q1 : wy.cell? ⟨W1.heap.size, 1, none⟩ = some (.string (bs ax)) := by rw [blk_cell hblk]; rfl
          have q2 : wy.cell? ⟨W1.heap.size, 2, none⟩ = some (.string (bs ay)) := by rw [blk_cell hblk]; rfl
          have q3 : wy.cell? ⟨W1.heap.size, 3, none⟩ = some (.string (bs az)) := by rw [blk_cell hblk]; rfl
          have q4 : wy.cell? ⟨W1.heap.size, 4, none⟩ = some (.int .i64 bk) := by rw [blk_cell hblk]; rfl
          have q5 : wy.cell? ⟨W1.heap.size, 5, none⟩ = some (.string (bs bx)) := by rw [blk_cell hblk]; rfl
          have q6 : wy.cell? ⟨W1.heap.size, 6, none⟩ = some (.string (bs by')) := by rw [blk_cell hblk]; rfl
          have q7 : wy.cell? ⟨W1.heap.size, 7, none⟩ = some (.string (bs bz)) := by rw [blk_cell hblk]; rfl
          have q8 : wy.cell? ⟨W1.heap.size, 8, none⟩ = some (.int .i64 ck) := by rw [blk_cell hblk]; rfl
          have q9 : wy.cell? ⟨W1.heap.size, 9, none⟩ = some (.string (bs cx)) := by rw [blk_cell hblk]; rfl
          have q10 : wy.cell? ⟨W1.heap.size, 10, none⟩ = some (.string (bs cy)) := by rw [blk_cell hblk]; rfl
          have q11 : wy.cell? ⟨W1.heap.size, 11, none⟩ = some (.string (bs cz)) := by rw [blk_cell hblk]; rfl
          have hend := mid_end hmid.out
          have hbw5 : Below w.heap.size w wy := hbw.trans (hby.mono hbw.size)
          clear hblk
          cases hpf : Lib.hasPrefix S.data.toList [46, 10] with
          | false =>
            rw [hpf, if_neg (by simp)] at hend
            have HN := Lib.hid hend
            have HPF := Lib.hid hpf
            clear hpf hend
            go_wp2_with fail
            refine (Try.strings_HasPrefix _ _ _).mono ?_
            rintro e wn ⟨rfl, hwn⟩
            subst hwn
            rw [show (⟨#[46, 10]⟩ : ByteArray).data.toList = [46, 10] from rfl, HPF.out]
            go_wp2
            (try rw [Exit.noGoto_ret])
            refine bodyPost_ret (v := .tuple #[.slice none 0 0, .int .i64 ((T.length : Int) + 1), .int .i64 2]) (by simp [results, Try.results15, go_sem]) rfl ?_
            exact read_bad hoff.out HN.out HRN.out (hbw5.alloc hbw5.size _)
          | true =>
            rw [hpf, if_pos rfl] at hend
            have hS2 : 2 ≤ S.size := by
              have := Lib.hasPrefix_le hpf
              rw [Lib.size_eq]; exact this
            have HPF := Lib.hid hpf
            clear hpf
            cases htb : tripB ⟨⟨ak, ax, ay, az⟩, ⟨bk, bx, by', bz⟩, ⟨ck, cx, cy, cz⟩⟩ with
            | false =>
              rw [htb, if_neg (by simp)] at hend
              have HN := Lib.hid hend
              have HTB := Lib.hid htb
              clear htb hend
              go_wp2_with fail
              refine (Try.strings_HasPrefix _ _ _).mono ?_
              rintro e wn ⟨rfl, hwn⟩
              subst hwn
              rw [show (⟨#[46, 10]⟩ : ByteArray).data.toList = [46, 10] from rfl, HPF.out]
              go_wp2_with fail
              refine (tCheck_calls ⟨⟨ak, ax, ay, az⟩, ⟨bk, bx, by', bz⟩, ⟨ck, cx, cy, cz⟩⟩ (trip_ok htok.out hs) _).mono ?_
              rintro e w2 ⟨rfl, hb2⟩
              rw [HTB.out]
              simp only [formZ]
              go_wp2
              (try rw [Exit.noGoto_ret])
              refine bodyPost_ret (v := .tuple #[.slice none 0 0, .int .i64 ((T.length : Int) + 1), .int .i64 2]) (by simp [results, Try.results15, go_sem]) rfl ?_
              exact read_bad hoff.out HN.out HRN.out ((hbw5.alloc hbw5.size _).trans (hb2.mono (by have := hbw5.size; simp; omega)))
            | true =>
              rw [htb, if_pos rfl] at hend
              have HMORE := Lib.hid (off_more hoff.out hend)
              have HTB := Lib.hid htb
              clear htb hend
              have hsz2 : (S.extract 2 S.size).size = S.size - 2 := by rw [drop_bs S 2, bs_size, List.length_drop, ← Lib.size_eq]
              have HSZ2 := Lib.hid hsz2
              clear hsz2
              have hown2 := rowOn hown hby
              by_cases h4 : T.length < 4096
              · have HT1 := Lib.hid (show T.take 4096 = T from List.take_of_length_le (by omega))
                have HT2 := Lib.hid (show (T ++ [(⟨⟨ak, ax, ay, az⟩, ⟨bk, bx, by', bz⟩, ⟨ck, cx, cy, cz⟩⟩ : TripL)]).take 4096 = T ++ [(⟨⟨ak, ax, ay, az⟩, ⟨bk, bx, by', bz⟩, ⟨ck, cx, cy, cz⟩⟩ : TripL)] from List.take_of_length_le (by rw [List.length_append, List.length_singleton]; omega))
                rw [HT1.out] at hown2
                have g4 : (T.length : Int) < 4096 := by omega
                go_wp2_with fail
                refine (Try.strings_HasPrefix _ _ _).mono ?_
                rintro e wn ⟨rfl, hwn⟩
                subst hwn
                rw [show (⟨#[46, 10]⟩ : ByteArray).data.toList = [46, 10] from rfl, HPF.out]
                go_wp2_with fail
                refine (tCheck_calls ⟨⟨ak, ax, ay, az⟩, ⟨bk, bx, by', bz⟩, ⟨ck, cx, cy, cz⟩⟩ (trip_ok htok.out hs) _).mono ?_
                rintro e w2 ⟨rfl, hb2⟩
                rw [HTB.out]
                simp only [formZ]
                have hown3 := rowOn (hown2.alloc _) hb2
                have hbw6 := (hbw5.alloc hbw5.size _).trans (hb2.mono (by have := hbw5.size; simp; omega))
                have hz6 : w.heap.size ≤ w2.heap.size := hbw6.size
                have hz7 : wy.heap.size < w2.heap.size := by have := hb2.size; simp at this; omega
                have r0 : w2.cell? ⟨wy.heap.size, 0, none⟩ = some (.int .i64 ak) := by rw [hb2.cell (p := ⟨wy.heap.size, 0, none⟩) (by simp)]; simp [go_sem]
                have r1 : w2.cell? ⟨wy.heap.size, 1, none⟩ = some (.string (bs ax)) := by rw [hb2.cell (p := ⟨wy.heap.size, 1, none⟩) (by simp)]; simp [go_sem]
                have r2 : w2.cell? ⟨wy.heap.size, 2, none⟩ = some (.string (bs ay)) := by rw [hb2.cell (p := ⟨wy.heap.size, 2, none⟩) (by simp)]; simp [go_sem]
                have r3 : w2.cell? ⟨wy.heap.size, 3, none⟩ = some (.string (bs az)) := by rw [hb2.cell (p := ⟨wy.heap.size, 3, none⟩) (by simp)]; simp [go_sem]
                have r4 : w2.cell? ⟨wy.heap.size, 4, none⟩ = some (.int .i64 bk) := by rw [hb2.cell (p := ⟨wy.heap.size, 4, none⟩) (by simp)]; simp [go_sem]
                have r5 : w2.cell? ⟨wy.heap.size, 5, none⟩ = some (.string (bs bx)) := by rw [hb2.cell (p := ⟨wy.heap.size, 5, none⟩) (by simp)]; simp [go_sem]
                have r6 : w2.cell? ⟨wy.heap.size, 6, none⟩ = some (.string (bs by')) := by rw [hb2.cell (p := ⟨wy.heap.size, 6, none⟩) (by simp)]; simp [go_sem]
                have r7 : w2.cell? ⟨wy.heap.size, 7, none⟩ = some (.string (bs bz)) := by rw [hb2.cell (p := ⟨wy.heap.size, 7, none⟩) (by simp)]; simp [go_sem]
                have r8 : w2.cell? ⟨wy.heap.size, 8, none⟩ = some (.int .i64 ck) := by rw [hb2.cell (p := ⟨wy.heap.size, 8, none⟩) (by simp)]; simp [go_sem]
                have r9 : w2.cell? ⟨wy.heap.size, 9, none⟩ = some (.string (bs cx)) := by rw [hb2.cell (p := ⟨wy.heap.size, 9, none⟩) (by simp)]; simp [go_sem]
                have r10 : w2.cell? ⟨wy.heap.size, 10, none⟩ = some (.string (bs cy)) := by rw [hb2.cell (p := ⟨wy.heap.size, 10, none⟩) (by simp)]; simp [go_sem]
                have r11 : w2.cell? ⟨wy.heap.size, 11, none⟩ = some (.string (bs cz)) := by rw [hb2.cell (p := ⟨wy.heap.size, 11, none⟩) (by simp)]; simp [go_sem]
                clear hb2 hown2 hown
                clear q0 q1 q2 q3 q4 q5 q6 q7 q8 q9 q10 q11
                go_wp2_with (at_builtin; go_must (refine wpList_append_own _ rfl (.tmp 62) (.tmp 64) 33 rfl w.heap.size 25 i0 noTrip.v 12 168 Try.underlying33 hi hz0 hz1 hz2 rfl (by decide) _ _ _ rfl (hown3.alloc _) ⟨w2.heap.size, 0, none⟩ 1 1 [.int .i64 ak, .string (bs ax), .string (bs ay), .string (bs az), .int .i64 bk, .string (bs bx), .string (bs by'), .string (bs bz), .int .i64 ck, .string (bs cx), .string (bs cy), .string (bs cz)] rfl rfl (news12 _ _ _ _ _ _ _ _ _ _ _ _ _ _) (by intro u hu; simp at hu; rcases hu with rfl | rfl | rfl | rfl | rfl | rfl | rfl | rfl | rfl | rfl | rfl | rfl <;> rfl) (by unfold maxLen; omega) (by omega) (by simp; omega) ?_; intro v3 w3 hown4 hgrow4 hnil4; have HN4 := Lib.hid hnil4; clear hnil4; have HO4 := Lib.hid hown4; clear hown4; have HG4 := Lib.hid hgrow4; clear hgrow4))
                go_roundg (S.size - 2)
                case measure => omega
                case rel => exact ⟨T ++ [⟨⟨ak, ax, ay, az⟩, ⟨bk, bx, by', bz⟩, ⟨ck, cx, cy, cz⟩⟩], S.extract 2 S.size, rfl, by simp, by rw [HT2.out, tripCells_append, List.length_append, tripCells_one]; exact HO4.out, (hbw6.alloc hz6 _).grown HG4.out (by simp; omega) (fun k hk => (hown3.lt k hk).1), by rw [drop_bs S 2, bs_data]; exact HMORE, by rw [HSZ2.out, HSL.out]; simp; omega, by rw [HSZ2.out]; exact Nat.le_refl _⟩
              · have HT2 := Lib.hid (show (T ++ [(⟨⟨ak, ax, ay, az⟩, ⟨bk, bx, by', bz⟩, ⟨ck, cx, cy, cz⟩⟩ : TripL)]).take 4096 = T.take 4096 from List.take_append_of_le_length (by omega))
                have g4 : ¬ (T.length : Int) < 4096 := by omega
                go_wp2_with fail
                refine (Try.strings_HasPrefix _ _ _).mono ?_
                rintro e wn ⟨rfl, hwn⟩
                subst hwn
                rw [show (⟨#[46, 10]⟩ : ByteArray).data.toList = [46, 10] from rfl, HPF.out]
                go_wp2_with fail
                refine (tCheck_calls ⟨⟨ak, ax, ay, az⟩, ⟨bk, bx, by', bz⟩, ⟨ck, cx, cy, cz⟩⟩ (trip_ok htok.out hs) _).mono ?_
                rintro e w2 ⟨rfl, hb2⟩
                rw [HTB.out]
                simp only [formZ]
                have hown3 := rowOn (hown2.alloc _) hb2
                have hbw6 := (hbw5.alloc hbw5.size _).trans (hb2.mono (by have := hbw5.size; simp; omega))
                clear hb2 hown2 hown
                clear q0 q1 q2 q3 q4 q5 q6 q7 q8 q9 q10 q11
                go_wp2
                go_roundg (S.size - 2)
                case measure => omega
                case rel => exact ⟨T ++ [⟨⟨ak, ax, ay, az⟩, ⟨bk, bx, by', bz⟩, ⟨ck, cx, cy, cz⟩⟩], S.extract 2 S.size, rfl, by simp, by rw [HT2.out]; exact hown3, hbw6, by rw [drop_bs S 2, bs_data]; exact HMORE, by rw [HSZ2.out, HSL.out]; simp; omega, by rw [HSZ2.out]; exact Nat.le_refl _⟩

end Go.Proofs.Ythdhoaihmlodjaa
