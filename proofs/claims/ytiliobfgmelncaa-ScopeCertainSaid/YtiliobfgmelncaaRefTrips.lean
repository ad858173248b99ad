
/- The document's tests of names, IRIs, languages and terms, in plain words, are package term's (no program). What the document's own answers for names, IRIs, languages and right terms come to: the same as package term's, for every text and term. Whether a triple is right, as a triple and as a pattern, by the document's own answers. -/
import Derived.Test.YtiliobfgmelncaaRefLeaf
import Derived.Test.YtiliobfgmelncaaTermCheck
import Derived.Test.YtiliobfgmelncaaTripCheck
namespace Go.Proofs.Ytiliobfgmelncaa

def allAt (p : Nat → Int → Bool) : Nat → List UInt8 → Bool
  | _, [] => true
  | k, b :: r => p k (b.toNat : Int) && allAt p (k + 1) r
theorem lead_full (p : Nat → Int → Bool) : ∀ (k : Nat) (l : List UInt8), (lead p k l == l.length) = allAt p k l
  | _, [] => by simp [lead, allAt]
  | k, b :: r => by
    have ih := lead_full p (k + 1) r
    simp only [lead, allAt, List.length_cons]
    cases h : p k (b.toNat : Int) with
    | true => rw [Bool.true_and, ← ih, Bool.eq_iff_iff]; simp
    | false => simp

theorem allB_cons (p : Int → Bool) (b : UInt8) (r : List UInt8) : allB p (b :: r) = (p (b.toNat : Int) && allB p r) := rfl

theorem allAt_bound (q : Int → Bool) (n : Nat) : ∀ (k : Nat) (l : List UInt8), l ≠ [] → allAt (fun k c => decide (k < n) && q c) k l = (decide (k + l.length ≤ n) && allB q l)
  | _, [], h => absurd rfl h
  | k, [b], _ => by
    rw [Bool.eq_iff_iff]; simp [allAt, allB]; omega
  | k, b :: c :: r, _ => by
    have ih := allAt_bound q n (k + 1) (c :: r) (by simp)
    rw [allAt, ih, allB_cons q b (c :: r), Bool.eq_iff_iff]
    simp
    constructor
    · rintro ⟨⟨_, h1⟩, h2, h3⟩; exact ⟨by omega, h1, h3⟩
    · rintro ⟨h1, h2, h3⟩; exact ⟨⟨by omega, h2⟩, by omega, h3⟩

theorem iriL_eq (l : List UInt8) : iriL l = (decide (1 ≤ l.length) && decide (l.length ≤ 4096) && allB iriZ l) := by
  cases l with
  | nil => rfl
  | cons b r =>
    unfold iriL iriLead
    rw [lead_full, allAt_bound iriZ 4096 0 (b :: r) (by simp), Nat.zero_add]
    simp

theorem lead_lang (l : List UInt8) : langLead l = lead (fun k c => decide (k < 9) && smallZ c) 0 l := by
  unfold langLead
  congr 1
  funext k c
  congr 1
  rw [decide_eq_decide]; omega

theorem langL_eq (l : List UInt8) : langL l = (decide (1 ≤ l.length) && decide (l.length ≤ 8) && allB smallZ l) := by
  cases l with
  | nil => rfl
  | cons b r =>
    unfold langL
    rw [lead_lang, lead_full, allAt_bound smallZ 9 0 (b :: r) (by simp), Nat.zero_add, Bool.eq_iff_iff]
    simp
    constructor
    · rintro ⟨⟨_, h⟩, g⟩; exact ⟨by omega, h⟩
    · rintro ⟨g, h⟩; exact ⟨⟨by omega, h⟩, by omega⟩

theorem allAt_name : ∀ (k : Nat) (l : List UInt8), 0 < k → allAt (fun k c => decide (k < 32) && nameZ c k) k l = allAt (fun k c => decide (k < 32) && wordZ c) k l
  | _, [], _ => rfl
  | k, b :: r, h => by
    rw [allAt, allAt, allAt_name (k + 1) r (by omega)]
    have e : nameZ (b.toNat : Int) k = wordZ (b.toNat : Int) := by
      have : decide (0 < (k : Int)) = true := by simp; exact h
      rw [nameZ, wordZ, this, Bool.eq_iff_iff]; simp; exact or_assoc.symm.trans (by constructor <;> (rintro ((h | h) | h) <;> simp [h]))
    rw [e]

theorem nameL_eq (b : UInt8) (r : List UInt8) : nameL (b :: r) = (decide (r.length + 1 ≤ 32) && allB wordZ (b :: r) && letterZ (b.toNat : Int)) := by
  unfold nameL nameLead
  rw [lead_full, allAt, allAt_name 1 r (by omega)]
  have e : nameZ (b.toNat : Int) ((0 : Nat) : Int) = letterZ (b.toNat : Int) := by simp [nameZ]
  rw [e, allB_cons]
  have ew : letterZ (b.toNat : Int) = true → wordZ (b.toNat : Int) = true := fun h => by simp [wordZ, h]
  cases r with
  | nil => rw [Bool.eq_iff_iff]; simp [allAt, allB]; exact ew
  | cons c r =>
    rw [allAt_bound wordZ 32 1 (c :: r) (by simp), Bool.eq_iff_iff]
    simp
    constructor
    · rintro ⟨h, g, a⟩; exact ⟨⟨by omega, ew h, a⟩, h⟩
    · rintro ⟨⟨g, _, a⟩, h⟩; exact ⟨h, by omega, a⟩

theorem litL_eq (l : List UInt8) : litL l = (decide (l.length ≤ 4096) && allB litZ l) := rfl

end Go.Proofs.Ytiliobfgmelncaa

namespace Go.Proofs.Ytiliobfgmelncaa
open Go.RowKit

theorem nameL_of (s : ByteArray) (h : 0 < s.size) : nameL s.data.toList = (decide (s.size ≤ 32) && allB wordZ s.data.toList && letterZ (s[0].toNat : Int)) := by
  have e := get_list s 0 h
  have e2 := Lib.size_eq s
  generalize s[0] = c at e
  cases hl : s.data.toList with
  | nil => have e3 : s.size = 0 := by rw [e2, hl]; rfl
           omega
  | cons b r =>
    rw [nameL_eq]
    have hc : b = c := by simpa [hl] using e
    subst hc
    rw [e2, hl, List.length_cons]

theorem letterZ_betw (c : Int) : letterZ c = (betw 97 c 122 || betw 65 c 90) := rfl

theorem lit_eq (s : ByteArray) : litL s.data.toList = (decide (s.size ≤ 4096) && allB litZ s.data.toList) := by
  rw [litL_eq, Lib.size_eq]

end Go.Proofs.Ytiliobfgmelncaa

namespace Go.Proofs.Ytiliobfgmelncaa
open Go.RowKit

def kindstripB (a b c : Int) : Bool := (a == 1 || a == 3) && (b == 1 && (c == 1 || (c == 3 || c == 2)))
def kindspatB (a b c : Int) : Bool := (a == 1 || a == 4) && ((b == 1 || b == 4) && (c == 1 || (c == 2 || c == 4)))
theorem kinds_tripB {k k' k'' : Int} {x y z x' y' z' x'' y'' z'' : List UInt8} (h0 : rightL k x y z = true) (h1 : rightL k' x' y' z' = true) (h2 : rightL k'' x'' y'' z'' = true) : tripB ⟨⟨k, x, y, z⟩, ⟨k', x', y', z'⟩, ⟨k'', x'', y'', z''⟩⟩ = kindstripB k k' k'' := by
  unfold tripB checkB placeB TermL.right kindstripB
  rw [h0, h1, h2]; simp only [List.contains, List.elem_cons, List.elem_nil, Bool.and_true]
  cases k == 1 <;> cases k == 3 <;> cases k' == 1 <;> cases k'' == 1 <;> cases k'' == 3 <;> cases k'' == 2 <;> rfl
theorem kinds_patB {k k' k'' : Int} {x y z x' y' z' x'' y'' z'' : List UInt8} (h0 : rightL k x y z = true) (h1 : rightL k' x' y' z' = true) (h2 : rightL k'' x'' y'' z'' = true) : patB ⟨⟨k, x, y, z⟩, ⟨k', x', y', z'⟩, ⟨k'', x'', y'', z''⟩⟩ = kindspatB k k' k'' := by
  unfold patB checkB placeB TermL.right kindspatB
  rw [h0, h1, h2]; simp only [List.contains, List.elem_cons, List.elem_nil, Bool.and_true]
  cases k == 1 <;> cases k == 4 <;> cases k' == 1 <;> cases k' == 4 <;> cases k'' == 1 <;> cases k'' == 2 <;> cases k'' == 4 <;> rfl

end Go.Proofs.Ytiliobfgmelncaa
