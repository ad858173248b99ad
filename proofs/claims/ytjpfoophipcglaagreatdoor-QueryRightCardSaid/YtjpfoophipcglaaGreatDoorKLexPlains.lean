/- A query's text as words, in plain words. -/
import Derived.Test.YtjpfoophipcglaaGreatDoorKTermPlains
import Derived.Lib.SlTrimSet
namespace Go.Proofs.YtjpfoophipcglaaGreatDoor
set_option maxRecDepth 100000
set_option maxHeartbeats 8000000
def spaceZ (c:Int):Bool:=decide (c=32∨c=9∨c=10)
def spaceLead (l:List UInt8):Nat:=lead (fun _ c=>spaceZ c) 0 l
def letterLead (l:List UInt8):Nat:=lead (fun _ c=>letterZ c) 0 l
def digitLead (l:List UInt8):Nat:=lead (fun _ c=>digitZ c) 0 l
theorem letter_high {c:Int} (h:128≤c):letterZ c=false:=by simp [letterZ,smallZ,bigZ];omega
theorem digit_high {c:Int} (h:128≤c):digitZ c=false:=by simp [digitZ];omega
theorem lead_free (q:Int→Bool):∀(j k:Nat) (l:List UInt8),lead (fun _ c=>q c) j l=lead (fun _ c=>q c) k l
  | _,_,[]=>rfl
  | j,k,b::r=>by simp only [lead];rw [lead_free q (j+1) (k+1) r]
structure TokL where
  k:Int
  x:List UInt8
  t:TermL
  a:Int
def noTok:TokL:=⟨0,[],noTerm,0⟩
def TokL.v (t:TokL):Value:=.agg #[.int .i64 t.k,.string (bs t.x),.int .i64 t.t.k,.string (bs t.t.x),.string (bs t.t.y),.string (bs t.t.z),.int .i64 t.a]
def TokL.at (t:TokL) (a:Int):TokL:=⟨t.k,t.x,t.t,a⟩
def decT:List UInt8:=[104,116,116,112,58,47,47,119,119,119,46,119,51,46,111,114,103,47,50,48,48,49,47,88,77,76,83,99,104,101,109,97,35,100,101,99,105,109,97,108]
def termTok (t:TermL):TokL:=if t.k=4 then ⟨2,t.x,noTerm,0⟩ else ⟨3,[],t,0⟩
def placesS (l:List UInt8):Nat:=if Lib.hasPrefix l [46]=true∧0<digitLead (l.drop 1) then digitLead (l.drop 1)+1 else 0
def digitsS (l:List UInt8) (n:Nat):TokL×Nat :=
  if 0<placesS (l.drop n) then (⟨3,[],⟨2,l.take (n+placesS (l.drop n)),decT,[]⟩,0⟩,n+placesS (l.drop n)) else (⟨4,l.take n,noTerm,0⟩,n)
def twoB (l:List UInt8):Bool:=Lib.hasPrefix l [60,61]||Lib.hasPrefix l [62,61]||Lib.hasPrefix l [33,61]||Lib.hasPrefix l [38,38]||Lib.hasPrefix l [124,124]
def oneZ (c:Int):Bool:=decide (c=123∨c=125∨c=40∨c=41∨c=46∨c=44∨c=42∨c=43∨c=45∨c=47∨c=61∨c=60∨c=62∨c=33)
def oneB:List UInt8→Bool
  | []=>false
  | c::_=>oneZ (c.toNat:Int)
def signN (l:List UInt8):Nat:=if twoB l then 2 else if oneB l then 1 else 0
def signS (l:List UInt8):TokL×Nat:=if signN l=0 then (noTok,0) else (⟨5,l.take (signN l),noTerm,0⟩,signN l)
def wordS (l:List UInt8):TokL×Nat :=
  if 0<(prefixS l).2 then (termTok (prefixS l).1,(prefixS l).2)
  else if 0<letterLead l then (⟨1,l.take (letterLead l),noTerm,0⟩,letterLead l)
  else if 0<digitLead l then digitsS l (digitLead l)
  else signS l
def begS (l:List UInt8) (a:Nat):Nat:=a+spaceLead (l.drop a)
def nextS (l:List UInt8) (a:Nat):TokL×Nat×Int :=
  if begS l a=l.length then (noTok,begS l a,0)
  else if (wordS (l.drop (begS l a))).2=0 then (noTok,0,2)
  else ((wordS (l.drop (begS l a))).1.at (begS l a),begS l a+(wordS (l.drop (begS l a))).2,0)
def toksS (l:List UInt8):Nat→Nat→List TokL×Nat×Int
  | 0,_=>([],0,0)
  | f+1,a =>
    if (nextS l a).2.2≠0 then ([],begS l a,2)
    else if begS l a=l.length then ([],0,0)
    else if (toksS l f (nextS l a).2.1).2.2=0 then ((nextS l a).1::(toksS l f (nextS l a).2.1).1,0,0)
    else ([],(toksS l f (nextS l a).2.1).2.1,2)
def lexS (l:List UInt8):List TokL×Nat×Int:=if 4096<l.length then ([],0,3) else toksS l (l.length+1) 0
theorem begS_le {l:List UInt8} {a:Nat} (h:a≤l.length):begS l a≤l.length:=by
  have:=lead_le (fun _ c=>spaceZ c) 0 (l.drop a)
  rw [List.length_drop] at this
  unfold begS spaceLead;omega
theorem begS_ge (l:List UInt8) (a:Nat):a≤begS l a:=by unfold begS;omega
theorem named_le (k:Int) (l:List UInt8) (n:Nat) (h:n≤l.length):(namedS k l n).2≤l.length:=by
  have:=lead_drop_le (fun k c=>decide (k<32)&&nameZ c k) l n
  rw [show lead (fun k c=>decide (k<32)&&nameZ c k) 0 (l.drop n)=nameLead (l.drop n) from rfl] at this
  unfold namedS
  split
  · exact Nat.zero_le _
  · dsimp only;omega
theorem bracket_le' (l:List UInt8):(bracketS l).2≤l.length:=by
  have h1:=lead_drop_le (fun k c=>decide (k<4096)&&iriZ c) l 1
  rw [show lead (fun k c=>decide (k<4096)&&iriZ c) 0 (l.drop 1)=iriLead (l.drop 1) from rfl] at h1
  unfold bracketS
  split
  · split
    · exact Nat.zero_le _
    · rename_i h
      have h2:Lib.hasPrefix (l.drop (iriLead (l.drop 1)+1)) [62]=true:=by
        cases e:Lib.hasPrefix (l.drop (iriLead (l.drop 1)+1)) [62] with
        | true=>rfl
        | false=>exact absurd (.inr e) h
      have h3:=Lib.hasPrefix_le h2
      rw [List.length_drop,List.length_singleton] at h3
      dsimp only;omega
  · exact Nat.zero_le _
theorem tag_le' (l:List UInt8):(tagS l).2.2≤l.length:=by
  unfold tagS
  split
  · rename_i h
    have h0:=Lib.hasPrefix_le h
    have h1:=bracket_le' (l.drop 2)
    rw [List.length_drop] at h1
    unfold typeS
    split
    · exact Nat.zero_le _
    · simp at h0;dsimp only;omega
  · split
    · rename_i h
      have h0:=Lib.hasPrefix_le h
      have h1:=lead_drop_le (fun k c=>decide (k≤8)&&smallZ c) l 1
      rw [show lead (fun k c=>decide (k≤8)&&smallZ c) 0 (l.drop 1)=langLead (l.drop 1) from rfl] at h1
      unfold langS
      split
      · exact Nat.zero_le _
      · simp at h0;dsimp only;omega
    · exact Nat.zero_le _
theorem prefix_le (l:List UInt8):(prefixS l).2≤l.length:=by
 (unfold prefixS);split
 ·(unfold iriS);split
  ·exact Nat.zero_le _
  ·exact bracket_le' l
 ·split
  ·rename_i h;exact named_le 3 l 2 (by have:=Lib.hasPrefix_le h;simpa using this)
  ·split
   ·rename_i h;exact named_le 4 l 1 (by have:=Lib.hasPrefix_le h;simpa using this)
   ·split
    ·rename_i h;have h0:=Lib.hasPrefix_le h;have h1:=unq_le (l.drop 1) [] false 0;rw [List.length_drop,Nat.add_zero] at h1;(unfold literalS);split
     ·exact Nat.zero_le _
     ·have h2:=tag_le' (l.drop (unquoteS l).2);rw [List.length_drop] at h2;(have h3:(unquoteS l).2≤l.length:=by unfold unquoteS;simp at h0;omega);dsimp only;omega
    ·exact Nat.zero_le _
theorem digits_le (l:List UInt8) (n:Nat) (h:n≤l.length):(digitsS l n).2≤l.length:=by
  unfold digitsS
  split
  · unfold placesS
    split
    · rename_i h1
      have h2:=Lib.hasPrefix_le h1.1
      have h3:=lead_drop_le (fun _ c=>digitZ c) (l.drop n) 1
      rw [show lead (fun _ c=>digitZ c) 0 ((l.drop n).drop 1)=digitLead ((l.drop n).drop 1) from rfl] at h3
      rw [List.length_drop] at h2 h3
      simp at h2
      dsimp only;omega
    · exact h
  · exact h
theorem signN_le (l:List UInt8):signN l≤l.length:=by
  unfold signN
  split
  · rename_i h
    unfold twoB at h
    simp only [Bool.or_eq_true] at h
    rcases h with (((h|h)|h)|h)|h<;>(have:=Lib.hasPrefix_le h;simpa using this)
  · split
    · rename_i h
      cases l with
      | nil=>cases h
      | cons b r=>simp
    · exact Nat.zero_le _
theorem word_le (l:List UInt8):(wordS l).2≤l.length:=by
  unfold wordS
  split
  · exact prefix_le l
  · split
    · exact lead_le _ 0 l
    · split
      · exact digits_le l _ (lead_le _ 0 l)
      · unfold signS
        split
        · exact Nat.zero_le _
        · exact signN_le l
theorem word_kind (l:List UInt8) (h:¬(wordS l).2=0):(wordS l).1.k=1∨(wordS l).1.k=2∨(wordS l).1.k=3∨(wordS l).1.k=4∨(wordS l).1.k=5:=by
  unfold wordS at h ⊢
  split
  · unfold termTok;split<;>simp
  · split
    · simp
    · split
      · unfold digitsS;split<;>simp
      · rename_i h1 h2 h3
        rw [if_neg h1,if_neg h2,if_neg h3] at h
        unfold signS at h ⊢
        split
        · rename_i h4;rw [if_pos h4] at h;exact absurd rfl h
        · simp
theorem toksS_err (l:List UInt8):∀f a,(toksS l f a).2.2=0∨(toksS l f a).2.2=2
  | 0,_=>.inl rfl
  | f+1,a=>by
    unfold toksS
    split
    · exact .inr rfl
    · split
      · exact .inl rfl
      · split
        · exact .inl rfl
        · exact .inr rfl
theorem next_end {l:List UInt8} {a:Nat} (h:begS l a=l.length):nextS l a=(noTok,l.length,0):=by unfold nextS;rw [if_pos h,h]
theorem next_bad {l:List UInt8} {a:Nat} (h:¬begS l a=l.length) (h2:(wordS (l.drop (begS l a))).2=0):nextS l a=(noTok,0,2):=by unfold nextS;rw [if_neg h,if_pos h2]
theorem next_word {l:List UInt8} {a:Nat} (h:¬begS l a=l.length) (h2:¬(wordS (l.drop (begS l a))).2=0):nextS l a=((wordS (l.drop (begS l a))).1.at (begS l a),begS l a+(wordS (l.drop (begS l a))).2,0):=by unfold nextS;rw [if_neg h,if_neg h2]
def Run5 (l:List UInt8) (T:List TokL) (f a:Nat):Prop :=
  a≤l.length∧T.length≤a∧l.length-a<f∧toksS l (l.length+1) 0=(if (toksS l f a).2.2=0 then (T++(toksS l f a).1,0,0) else ([],(toksS l f a).2.1,2))
theorem run_start (l:List UInt8):Run5 l [] (l.length+1) 0:=by
 (refine⟨Nat.zero_le _,Nat.le_refl _,by omega,?_⟩);generalize hq:toksS l (l.length+1) 0=q;rcases toksS_err l (l.length+1) 0 with h|h
 ·rw [hq] at h;have h2:q.2.1=0:=by
   rw [←hq] at h ⊢;(unfold toksS at h ⊢);split
   ·rename_i h0;rw [if_pos h0] at h;cases h
   ·split
    ·rfl
    ·split
     ·rfl
     ·rename_i h0 h1 h2;rw [if_neg h0,if_neg h1,if_neg h2] at h;cases h
  rw [if_pos h];obtain⟨x,y,z⟩:=q;simp at h h2;subst h h2;rfl
 ·rw [hq] at h;have h2:q.1=[]:=by
   rw [←hq] at h ⊢;(unfold toksS at h ⊢);split
   ·rfl
   ·split
    ·rfl
    ·split
     ·rename_i h0 h1 h2;rw [if_neg h0,if_neg h1,if_pos h2] at h;cases h
     ·rfl
  (rw [if_neg (by rw [h];decide)]);obtain⟨x,y,z⟩:=q;simp at h h2;subst h h2;rfl
theorem run_end {l:List UInt8} {T:List TokL} {f a:Nat} (h:Run5 l T f a) (hb:begS l a=l.length):toksS l (l.length+1) 0=(T,0,0):=by
  obtain⟨_,_,h2,h3⟩:=h
  obtain⟨f,rfl⟩:∃g,f=g+1:=⟨f-1,by omega⟩
  have e:toksS l (f+1) a=([],0,0):=by unfold toksS;rw [next_end hb,if_neg (by simp),if_pos hb]
  rw [h3,e,if_pos rfl];simp
theorem run_bad {l:List UInt8} {T:List TokL} {f a:Nat} (h:Run5 l T f a) (hb:¬begS l a=l.length) (hw:(wordS (l.drop (begS l a))).2=0):toksS l (l.length+1) 0=([],begS l a,2):=by
  obtain⟨_,_,h2,h3⟩:=h
  obtain⟨f,rfl⟩:∃g,f=g+1:=⟨f-1,by omega⟩
  have e:toksS l (f+1) a=([],begS l a,2):=by unfold toksS;rw [next_bad hb hw,if_pos (by simp)]
  rw [h3,e,if_neg (by simp)]
theorem run_word {l:List UInt8} {T:List TokL} {f a:Nat} (h:Run5 l T (f+1) a) (hb:¬begS l a=l.length) (hw:¬(wordS (l.drop (begS l a))).2=0):Run5 l (T++[(nextS l a).1]) f (nextS l a).2.1∧a<(nextS l a).2.1:=by
 obtain⟨h0,h1,h2,h3⟩:=h;have hle:=word_le (l.drop (begS l a));have hb2:=begS_le h0;have hb3:=begS_ge l a;rw [List.length_drop] at hle;have hn:=next_word hb hw;have e:toksS l (f+1) a=if (toksS l f (nextS l a).2.1).2.2=0 then ((nextS l a).1::(toksS l f (nextS l a).2.1).1,0,0) else ([],(toksS l f (nextS l a).2.1).2.1,2):=by
  (conv=>lhs;unfold toksS);rw [if_neg (by rw [hn];simp),if_neg hb]
 rw [e] at h3;(have hn2:(nextS l a).2.1=begS l a+(wordS (l.drop (begS l a))).2:=by rw [hn]);generalize nextS l a=q at *;rw [hn2] at h3 ⊢;(refine⟨⟨by omega,by rw [List.length_append,List.length_singleton];omega,by omega,?_⟩,by omega⟩);rw [h3];rcases toksS_err l f (begS l a+(wordS (l.drop (begS l a))).2) with g|g
 ·simp [g]
 ·simp [g]
theorem byteZ (c n:UInt8):((c.toNat:Int)=(n.toNat:Int))↔c=n:=⟨fun h=>UInt8.toNat_inj.1 (by omega),fun h=>by rw [h]⟩
theorem z9 (c:UInt8):((c.toNat:Int)=9)↔c=9:=byteZ c 9
theorem z10 (c:UInt8):((c.toNat:Int)=10)↔c=10:=byteZ c 10
theorem z32 (c:UInt8):((c.toNat:Int)=32)↔c=32:=byteZ c 32
theorem z33 (c:UInt8):((c.toNat:Int)=33)↔c=33:=byteZ c 33
theorem z40 (c:UInt8):((c.toNat:Int)=40)↔c=40:=byteZ c 40
theorem z41 (c:UInt8):((c.toNat:Int)=41)↔c=41:=byteZ c 41
theorem z42 (c:UInt8):((c.toNat:Int)=42)↔c=42:=byteZ c 42
theorem z43 (c:UInt8):((c.toNat:Int)=43)↔c=43:=byteZ c 43
theorem z44 (c:UInt8):((c.toNat:Int)=44)↔c=44:=byteZ c 44
theorem z45 (c:UInt8):((c.toNat:Int)=45)↔c=45:=byteZ c 45
theorem z46 (c:UInt8):((c.toNat:Int)=46)↔c=46:=byteZ c 46
theorem z47 (c:UInt8):((c.toNat:Int)=47)↔c=47:=byteZ c 47
theorem z60 (c:UInt8):((c.toNat:Int)=60)↔c=60:=byteZ c 60
theorem z61 (c:UInt8):((c.toNat:Int)=61)↔c=61:=byteZ c 61
theorem z62 (c:UInt8):((c.toNat:Int)=62)↔c=62:=byteZ c 62
theorem z123 (c:UInt8):((c.toNat:Int)=123)↔c=123:=byteZ c 123
theorem z125 (c:UInt8):((c.toNat:Int)=125)↔c=125:=byteZ c 125
theorem pre_head (c:UInt8) (r:List UInt8) (a:UInt8):Lib.hasPrefix (c::r) [a]=(c==a):=by
  unfold Lib.hasPrefix
  show (a==c&&List.isPrefixOf [] r)=(c==a)
  rw [Bool.eq_iff_iff]
  simp only [Bool.and_eq_true,beq_iff_eq,List.isPrefixOf_nil_left,and_true]
  exact eq_comm
def pickS (row:List UInt8) (n:Nat) (l:List UInt8):Nat→Nat→List UInt8
  | 0,_=>[]
  | f+1,k=>if k % n=0∧Lib.hasPrefix l ((row.drop k).take n)=true then (row.drop k).take n else pickS row n l f (k+1)
def doubleT:List UInt8:=[60,61,62,61,33,61,38,38,124,124]
def singleT:List UInt8:=[123,125,40,41,46,44,42,43,45,47,61,60,62,33]
theorem pick_yes {row:List UInt8} {n:Nat} {l:List UInt8} {f k:Nat} (h:k % n=0) (h2:Lib.hasPrefix l ((row.drop k).take n)=true):pickS row n l (f+1) k=(row.drop k).take n:=by unfold pickS;rw [if_pos ⟨h,h2⟩]
theorem pick_no {row:List UInt8} {n:Nat} {l:List UInt8} {f k:Nat} (h:k % n=0→Lib.hasPrefix l ((row.drop k).take n)=false):pickS row n l (f+1) k=pickS row n l f (k+1):=by
  conv=>lhs;unfold pickS
  rw [if_neg]
  rintro⟨a,b⟩;rw [h a] at b;cases b
theorem pre_two (l:List UInt8) (a b:UInt8) (h:Lib.hasPrefix l [a,b]=true):l.take 2=[a,b]:=by
  match l with
  | []=>cases h
  | [c]=>simp [Lib.hasPrefix] at h
  | c::d::r=>simp [Lib.hasPrefix] at h;simp [h.1,h.2]
theorem pre_one (l:List UInt8) (a:UInt8) (h:Lib.hasPrefix l [a]=true):l.take 1=[a]:=by
  match l with
  | []=>cases h
  | c::r=>simp [Lib.hasPrefix] at h;simp [h]
def twoT (l:List UInt8):List UInt8:=if twoB l then l.take 2 else []
def oneT (l:List UInt8):List UInt8:=if oneB l then l.take 1 else []
theorem pick_two (l:List UInt8):pickS doubleT 2 l 10 0=twoT l:=by
 (unfold twoT twoB);(simp only [pickS,doubleT]);(simp only [List.drop_zero,List.drop_succ_cons,List.take_succ_cons,List.take_zero,Nat.reduceMod,Nat.reduceAdd,true_and,false_and,if_false,Nat.reduceEqDiff,List.take_nil]);cases h1:Lib.hasPrefix l [60,61] with
 | true=>simp [pre_two _ _ _ h1]
 | false =>
   cases h2:Lib.hasPrefix l [62,61] with
   | true=>simp [pre_two _ _ _ h2]
   | false =>
     cases h3:Lib.hasPrefix l [33,61] with
     | true=>simp [pre_two _ _ _ h3]
     | false =>
       cases h4:Lib.hasPrefix l [38,38] with
       | true=>simp [pre_two _ _ _ h4]
       | false =>
         cases h5:Lib.hasPrefix l [124,124] with
         | true=>simp [pre_two _ _ _ h5]
         | false=>simp
theorem pick_single (l:List UInt8):∀row:List UInt8,∀k f,f+k=row.length→pickS row 1 l f k=if (row.drop k).any (fun c=>Lib.hasPrefix l [c]) then l.take 1 else []:=by
  intro row k f
  induction f generalizing k with
  | zero=>intro h;rw [List.drop_eq_nil_of_le (by omega)];simp [pickS]
  | succ f ih =>
    intro h
    have hk:k<row.length:=by omega
    rw [List.drop_eq_getElem_cons hk,List.any_cons]
    unfold pickS
    rw [List.drop_eq_getElem_cons hk,List.take_succ_cons,List.take_zero,Nat.mod_one]
    cases h1:Lib.hasPrefix l [row[k]] with
    | true=>simp [pre_one _ _ h1]
    | false=>rw [if_neg (by simp),ih (k+1) (by omega),Bool.false_or]
theorem pick_one (l:List UInt8):pickS singleT 1 l 14 0=oneT l:=by
  rw [pick_single l singleT 0 14 rfl]
  unfold oneT
  congr 1
  rw [eq_iff_iff,List.drop_zero]
  match l with
  | []=>simp [Lib.hasPrefix,oneB]
  | c::r =>
    have e:∀a:UInt8,Lib.hasPrefix (c::r) [a]=(c==a):=fun a=>pre_head c r a
    simp only [e,singleT,oneB,oneZ,List.any_cons,List.any_nil,z123 c,z125 c,z40 c,z41 c,z46 c,z44 c,z42 c,z43 c,z45 c,z47 c,z61 c,z60 c,z62 c,z33 c]
    simp only [Bool.or_eq_true,beq_iff_eq,decide_eq_true_iff,Bool.or_false]
theorem two_len (l:List UInt8) (h:twoB l=true):2≤l.length:=by
  unfold twoB at h
  simp only [Bool.or_eq_true] at h
  rcases h with (((h|h)|h)|h)|h<;>(have:=Lib.hasPrefix_le h;simpa using this)
theorem one_len (l:List UInt8) (h:oneB l=true):1≤l.length:=by
  cases l with
  | nil=>cases h
  | cons b r=>simp
def signT (l:List UInt8):List UInt8:=if twoT l≠[] then twoT l else oneT l
theorem signT_take (l:List UInt8):signT l=l.take (signN l)∧(signT l).length=signN l:=by
  have h2:=two_len l
  have h1:=one_len l
  unfold signT twoT oneT signN
  cases e2:twoB l with
  | true =>
    have:=h2 e2
    simp
    have hne:l≠[]:=by rintro rfl;simp at this
    simp [hne];omega
  | false =>
    cases e1:oneB l with
    | true=>have:=h1 e1;simp;omega
    | false=>simp
theorem trim_lead (l:List UInt8):Lib.trimLeftS l [32,9,10]=l.drop (spaceLead l):=by
  unfold Lib.trimLeftS spaceLead
  have key:∀(l:List UInt8) (k:Nat),l.dropWhile ([32,9,10].contains ·)=l.drop (lead (fun _ c=>spaceZ c) k l):=by
    intro l
    induction l with
    | nil=>intro k;rfl
    | cons b r ih =>
      intro k
      have e:([32,9,10].contains b)=spaceZ (b.toNat:Int):=by
        rw [Bool.eq_iff_iff]
        simp only [spaceZ,z32 b,z9 b,z10 b]
        simp
      rw [List.dropWhile_cons,e]
      simp only [lead]
      split
      · rw [ih (k+1)];rfl
      · rfl
  exact key l 0
theorem space_le (l:List UInt8):spaceLead l≤l.length:=lead_le _ 0 l
theorem stop_ahead (l:List UInt8) (n:Nat) (h:n<l.length):Lib.hasPrefix (l.drop n) [46]=decide ((l[n].toNat:Int)=46):=by
  rw [List.drop_eq_getElem_cons h,pre_head,Bool.eq_iff_iff,decide_eq_true_iff,z46]
  exact beq_iff_eq
theorem stop_none (l:List UInt8) (n:Nat) (h:l.length≤n):Lib.hasPrefix (l.drop n) [46]=false:=by
  rw [List.drop_eq_nil_of_le h];rfl
end Go.Proofs.YtjpfoophipcglaaGreatDoor
