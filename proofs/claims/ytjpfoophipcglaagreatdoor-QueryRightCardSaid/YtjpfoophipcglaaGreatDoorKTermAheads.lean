/- The pieces of a term that a text begins with: what package term's readers of brackets, types, languages and escapes come to, for every text. -/
import Derived.Test.YtjpfoophipcglaaGreatDoorKTermChecks
import Derived.Lib.OthersKept
namespace Go.Proofs.YtjpfoophipcglaaGreatDoor
set_option maxRecDepth 100000
set_option maxHeartbeats 8000000
section
open Go.RowKit
theorem ret_si {a b:ByteArray} {m n:Int} (h:a=b) (g:m=n):Ending.returned (.tuple #[.string a,.int .i64 m])=.returned (.tuple #[.string b,.int .i64 n]):=by rw [h,g]
theorem len_ok {s:ByteArray} (h:s.size≤281474976710656):s.size≤maxLen:=by unfold maxLen;omega
theorem Clone_calls (s:ByteArray) (w:World) (_hs:s.size≤281474976710656):Calls Tryz.prog 149 #[.string s] w fun e w'=>e=.returned (.string s)∧Below w.heap.size w w':=by
  go_enter Tryz.func149,Tryz.ntmps149
  go_wp2_with (go_at_call 205;refine (Tryz.stringslite_Clone _ _ (by omega)).mono ?_;rintro e w' ⟨rfl,hb⟩)
  go_ret
  exact⟨rfl,hb⟩
theorem drop_bs (s:ByteArray) (a:Nat):s.extract a s.size=bs (s.data.toList.drop a):=bs_eq (by rw [Lib.extract_data,List.take_of_length_le];rw [List.length_drop,←Lib.size_eq];exact Nat.le_refl _)
theorem piece_bs (s:ByteArray) (a b:Nat):s.extract a b=bs ((s.data.toList.drop a).take (b-a)):=bs_eq (Lib.extract_data s a b)
theorem pre_le {s:ByteArray} {p:List UInt8} (h:Lib.hasPrefix s.data.toList p=true):p.length≤s.size:=by
  have:=Lib.hasPrefix_le h;rw [Lib.size_eq];exact this
theorem lead_le_size (p:Nat→Int→Bool) (s:ByteArray) (n:Nat):lead p 0 (s.data.toList.drop n)≤s.size-n:=by
  rw [Lib.size_eq];exact lead_drop_le p _ n
theorem bracketed_calls (s:ByteArray) (w:World) (hs:s.size≤281474976710656):Calls Tryz.prog 242 #[.string s] w fun e w'=>e=.returned (.tuple #[.string (bs (bracketS s.data.toList).1),.int .i64 (bracketS s.data.toList).2])∧Below w.heap.size w w':=by
 by_cases h1:Lib.hasPrefix s.data.toList [60]=true
 ·have hl:1≤s.size:=pre_le h1;have hn:iriLead (s.data.toList.drop 1)≤s.size-1:=lead_le_size _ s 1;(have hS:=Hd (show bracketS s.data.toList=_ from by unfold bracketS;rw [if_pos h1]));(go_enter Tryz.func242,Tryz.ntmps242);(go_wp2_with (go_at_call 201;refine (Tryz.strings_HasPrefix _ _ _).mono ?_;rintro e w' ⟨rfl,rfl⟩));rw [drop_bs s 1];(refine (iriLength_calls (bs _) _ (by rw [bs_size,List.length_drop,←Lib.size_eq];unfold maxLen;omega)).mono ?_);rintro e w1 ⟨rfl,hb1⟩;rw [bs_data];generalize hg:iriLead (List.drop 1 s.data.toList)=n at hn hS;have HG:=Hd hg;clear hg;by_cases h0:n=0
  ·(have g0:((n:Int)==0)=true:=beq_iff_eq.2 (by omega));have hS':=Hd (hS.out.trans (if_pos (Or.inl h0)));clear h0 hS;(go_wp2_with fail);go_ret2;exact⟨by rw [hS'.out];rfl,hb1⟩
  ·(have g0:((n:Int)==0)=false:=beq_eq_false_iff_ne.2 (by omega));by_cases h2:Lib.hasPrefix (s.data.toList.drop (n+1)) [62]=true
   ·(have hS':=Hd (hS.out.trans (if_neg (by simp [h0,h2]))));clear hS;have H2:=Hd h2;clear h2;(go_wp2_with fail);rw [drop_bs s (n+1)];refine (Tryz.strings_HasPrefix _ _ _).mono ?_;rintro e w2 ⟨rfl,rfl⟩;have h2:=H2.out;rw [bs_data];go_wp2_with (go_at_call 149;refine (Clone_calls _ _ ?_).mono ?_;rotate_left;rintro e w3 ⟨rfl,hb3⟩)
    ·go_ret2;(refine⟨?_,hb1.trans (hb3.mono (by have:=hb1.size;omega))⟩);rw [hS'.out,piece_bs];exact ret_si (by rw [Nat.add_sub_cancel]) (by simp)
    ·rw [piece_bs,bs_size,List.length_take,List.length_drop,←Lib.size_eq];omega
   ·(have hS':=Hd (hS.out.trans (if_pos (Or.inr (by simpa using h2)))));clear hS;(have H2:=Hd (show Lib.hasPrefix (s.data.toList.drop (n+1)) [62]=false by simpa using h2));clear h2;(go_wp2_with fail);rw [drop_bs s (n+1)];refine (Tryz.strings_HasPrefix _ _ _).mono ?_;rintro e w2 ⟨rfl,rfl⟩;have h2:=H2.out;rw [bs_data];(go_wp2_with fail);go_ret2;exact⟨by rw [hS'.out];rfl,hb1⟩
 ·(have hS:=Hd (show bracketS s.data.toList=([],0) from by unfold bracketS;rw [if_neg h1]));(have h1':Lib.hasPrefix s.data.toList [60]=false:=by simpa using h1);clear h1;(go_enter Tryz.func242,Tryz.ntmps242);(go_wp2_with (go_at_call 201;refine (Tryz.strings_HasPrefix _ _ _).mono ?_;rintro e w' ⟨rfl,rfl⟩));go_ret2;exact⟨by rw [hS.out];rfl,Below.refl _ _⟩
theorem bracketS_size (s:ByteArray) (n:Nat):(bracketS (s.data.toList.drop n)).2≤s.size-n+1:=by
  have:=bracketS_le (s.data.toList.drop n);rw [List.length_drop,←Lib.size_eq] at this;exact this
theorem typeAhead_calls (s:ByteArray) (w:World) (hs:s.size≤281474976710656) (h2:2≤s.size):Calls Tryz.prog 244 #[.string s] w fun e w'=>e=.returned (.tuple #[.string (bs (typeS s.data.toList).1),.int .i64 (typeS s.data.toList).2])∧Below w.heap.size w w':=by
 have hn:=bracketS_size s 2;(have hS:=Hd (show typeS s.data.toList=_ from by unfold typeS;rfl));(go_enter Tryz.func244,Tryz.ntmps244);(go_wp2_with fail);rw [drop_bs s 2];(refine (bracketed_calls (bs _) _ (by rw [bs_size,List.length_drop,←Lib.size_eq];omega)).mono ?_);rintro e w1 ⟨rfl,hb1⟩;rw [bs_data];generalize bracketS (List.drop 2 s.data.toList)=p at hn hS;obtain⟨x,n⟩:=p;(simp only at hn hS);by_cases h0:n=0
 ·(have g0:((n:Int)==0)=true:=beq_iff_eq.2 (by omega));have hS':=Hd (hS.out.trans (if_pos h0));clear h0 hS;go_wp2;go_ret2;exact⟨by rw [hS'.out];rfl,hb1⟩
 ·(have g0:((n:Int)==0)=false:=beq_eq_false_iff_ne.2 (by omega));have hS':=Hd (hS.out.trans (if_neg h0));clear hS;go_wp2;go_ret2;exact⟨by rw [hS'.out];exact ret_si rfl (by simp),hb1⟩
theorem langAhead_calls (s:ByteArray) (w:World) (hs:s.size≤281474976710656) (h2:1≤s.size):Calls Tryz.prog 245 #[.string s] w fun e w'=>e=.returned (.tuple #[.string (bs (langS s.data.toList).1),.int .i64 (langS s.data.toList).2])∧Below w.heap.size w w':=by
 have hn:langLead (s.data.toList.drop 1)≤s.size-1:=lead_le_size _ s 1;(have hS:=Hd (show langS s.data.toList=_ from by unfold langS;rfl));(go_enter Tryz.func245,Tryz.ntmps245);(go_wp2_with fail);rw [drop_bs s 1];(refine (langLength_calls (bs _) _ (by rw [bs_size,List.length_drop,←Lib.size_eq];unfold maxLen;omega)).mono ?_);rintro e w1 ⟨rfl,hb1⟩;rw [bs_data];generalize langLead (List.drop 1 s.data.toList)=n at hn hS;by_cases h0:n=0
 ·(have g0:((n:Int)==0)=true:=beq_iff_eq.2 (by omega));have hS':=Hd (hS.out.trans (if_pos (Or.inl h0)));clear h0 hS;go_wp2;go_ret2;exact⟨by rw [hS'.out];rfl,hb1⟩
 ·(have g0:((n:Int)==0)=false:=beq_eq_false_iff_ne.2 (by omega));by_cases h8:8<n
  ·have hS':=Hd (hS.out.trans (if_pos (Or.inr h8)));clear hS;go_wp2;go_ret2;exact⟨by rw [hS'.out];rfl,hb1⟩
  ·(have hS':=Hd (hS.out.trans (if_neg (by omega))));clear hS;go_wp2_with (go_at_call 149;refine (Clone_calls _ _ ?_).mono ?_;rotate_left;rintro e w3 ⟨rfl,hb3⟩)
   ·go_ret2;(refine⟨?_,hb1.trans (hb3.mono (by have:=hb1.size;omega))⟩);rw [hS'.out,piece_bs];exact ret_si (by rw [Nat.add_sub_cancel]) (by simp)
   ·rw [piece_bs,bs_size,List.length_take,List.length_drop,←Lib.size_eq];omega
theorem escaped_calls (r:Int) (w:World):Calls Tryz.prog 264 #[.int .i32 r] w fun e w'=>e=.returned (.tuple #[.int .u8 (escZ r).1,.bool (escZ r).2])∧w'=w:=by
 by_cases h1:r=110
 ·subst h1;(go_enter Tryz.func264,Tryz.ntmps264);go_wp2;go_ret2;exact⟨rfl,rfl⟩
 by_cases h2:r=116
 ·subst h2;(go_enter Tryz.func264,Tryz.ntmps264);go_wp2;go_ret2;exact⟨rfl,rfl⟩
 by_cases h3:r=34
 ·subst h3;(go_enter Tryz.func264,Tryz.ntmps264);go_wp2;go_ret2;exact⟨rfl,rfl⟩
 by_cases h4:r=92
 ·subst h4;(go_enter Tryz.func264,Tryz.ntmps264);go_wp2;go_ret2;exact⟨rfl,rfl⟩
 ·have g1:(r==110)=false:=beq_eq_false_iff_ne.2 h1;have g2:(r==116)=false:=beq_eq_false_iff_ne.2 h2;have g3:(r==34)=false:=beq_eq_false_iff_ne.2 h3;have g4:(r==92)=false:=beq_eq_false_iff_ne.2 h4;(have hS:=Hd (show escZ r=(0,false) by simp [escZ,h1,h2,h3,h4]));clear h1 h2 h3 h4;(go_enter Tryz.func264,Tryz.ntmps264);go_wp2;go_ret2;exact⟨by rw [hS.out];rfl,rfl⟩
end
section
open Go.RowKit
theorem namedAhead_calls (k:Int) (s:ByteArray) (a:Int) (w:World) (hs:s.size≤281474976710656) (ha:1≤a) (hb:a≤2) (hl:a≤s.size):Calls Tryz.prog 203 #[.int .i64 k,.string s,.int .i64 a] w fun e w'=>e=.returned (.tuple #[(namedS k s.data.toList a.toNat).1.v,.int .i64 (namedS k s.data.toList a.toNat).2])∧Below w.heap.size w w':=by
 have hn:nameLead (s.data.toList.drop a.toNat)≤s.size-a.toNat:=lead_le_size _ s a.toNat;(have hS:=Hd (show namedS k s.data.toList a.toNat=_ from by unfold namedS;rfl));(go_enter Tryz.func203,Tryz.ntmps203);(go_wp2_with fail);rw [drop_bs s a.toNat];(refine (nameLength_calls (bs _) _ (by rw [bs_size,List.length_drop,←Lib.size_eq];unfold maxLen;omega)).mono ?_);rintro e w1 ⟨rfl,hb1⟩;rw [bs_data];obtain⟨hc,hf⟩:=bcell hb1;(have hz:w.heap.size<w1.heap.size:=by have:=hb1.size;simp at this;omega);generalize nameLead (List.drop a.toNat s.data.toList)=n at hn hS;by_cases h0:n=0
 ·(have g0:((n:Int)==0)=true:=beq_iff_eq.2 (by omega));have hS':=Hd (hS.out.trans (if_pos h0));clear h0 hS;go_wp2;(refine bodyPost_ret (v:=.tuple #[noTerm.v,.int .i64 0]) (by simp [results,Tryz.results203,noTerm,TermL.v,bs_nil,hc,go_sem]) rfl ⟨by rw [hS'.out];rfl,?_⟩);exact ((((one_box hb1).setCell (Nat.le_refl _) _).setCell (Nat.le_refl _) _).setCell (Nat.le_refl _) _).setCell (Nat.le_refl _) _
 ·(have g0:((n:Int)==0)=false:=beq_eq_false_iff_ne.2 (by omega));have hS':=Hd (hS.out.trans (if_neg h0));clear hS;go_wp2_with (go_at_call 149;refine (Clone_calls _ _ ?_).mono ?_;rotate_left;rintro e w3 ⟨rfl,hb3⟩;have hb4:=hb1.trans (hb3.mono hb1.size);obtain⟨hc3,hf3⟩:=bcell hb4;have hz3:w.heap.size<w3.heap.size:=(by have:=hb3.size;omega))
  ·refine bodyPost_ret (v:=.tuple #[.agg #[.int .i64 k,.string (s.extract a.toNat (a+n).toNat),.string ⟨#[]⟩,.string ⟨#[]⟩],.int .i64 (a+n)]) (by simp [results,Tryz.results203,hc3,go_sem]) rfl ⟨?_,?_⟩
   ·rw [hS'.out,piece_bs,show (a+(n:Int)).toNat-a.toNat=n by omega,show (a+(n:Int))=((a.toNat+n:Nat):Int) by omega];rfl
   ·exact ((((one_box hb4).setCell (Nat.le_refl _) _).setCell (Nat.le_refl _) _).setCell (Nat.le_refl _) _).setCell (Nat.le_refl _) _
  ·rw [piece_bs,bs_size,List.length_take,List.length_drop,←Lib.size_eq];omega
theorem iriAhead_calls (s:ByteArray) (w:World) (hs:s.size≤281474976710656):Calls Tryz.prog 202 #[.string s] w fun e w'=>e=.returned (.tuple #[(iriS s.data.toList).1.v,.int .i64 (iriS s.data.toList).2])∧Below w.heap.size w w':=by
 (have hS:=Hd (show iriS s.data.toList=_ from by unfold iriS;rfl));(go_enter Tryz.func202,Tryz.ntmps202);(go_wp2_with fail);refine (bracketed_calls _ _ hs).mono ?_;rintro e w1 ⟨rfl,hb1⟩;obtain⟨hc,hf⟩:=bcell hb1;(have hz:w.heap.size<w1.heap.size:=by have:=hb1.size;simp at this;omega);generalize bracketS s.data.toList=p at hS;obtain⟨x,n⟩:=p;(simp only at hS);by_cases h0:n=0
 ·(have g0:((n:Int)==0)=true:=beq_iff_eq.2 (by omega));have hS':=Hd (hS.out.trans (if_pos h0));clear h0 hS;go_wp2;(refine bodyPost_ret (v:=.tuple #[noTerm.v,.int .i64 0]) (by simp [results,Tryz.results202,noTerm,TermL.v,bs_nil,hc,go_sem]) rfl ⟨by rw [hS'.out];rfl,?_⟩);exact ((((one_box hb1).setCell (Nat.le_refl _) _).setCell (Nat.le_refl _) _).setCell (Nat.le_refl _) _).setCell (Nat.le_refl _) _
 ·(have g0:((n:Int)==0)=false:=beq_eq_false_iff_ne.2 (by omega));have hS':=Hd (hS.out.trans (if_neg h0));clear hS;go_wp2;(refine bodyPost_ret (v:=.tuple #[.agg #[.int .i64 1,.string (bs x),.string ⟨#[]⟩,.string ⟨#[]⟩],.int .i64 n]) (by simp [results,Tryz.results202,hc,go_sem]) rfl ⟨by rw [hS'.out];rfl,?_⟩);exact ((((one_box hb1).setCell (Nat.le_refl _) _).setCell (Nat.le_refl _) _).setCell (Nat.le_refl _) _).setCell (Nat.le_refl _) _
end
section
open Go.RowKit
theorem info_byte:(Tryz.prog.info? 5).map (fun i=>(i.zero,i.size,i.bytes))=some (some (.int .u8 0),1,1):=by kernel_rfl
theorem convert_own {w:World} {base n:Nat} {v:Value} {l:List UInt8} (h:w.ownsRow base 5 1 v n (Lib.byteCells l)):(convert 35 9 v).run Tryz.prog w=.ok (.string (bs l)) w:=by
 (have hl:n=l.length:=by have:=h.1;rw [Lib.byteCells_length] at this;omega);subst hl;rcases h.2 with ⟨rfl,h0⟩|⟨g,cap,cur,rfl,_⟩
 ·have e:l=[]:=List.eq_nil_of_length_eq_zero h0;subst e;rw [run_convert_bytes_string w 35 9 5 none 0 0 Tryz.underlying35 Tryz.underlying5 Tryz.underlying9];rfl
 ·exact run_convert_bytes_back (P:=Tryz.prog) w 35 9 5 ⟨g,0,none⟩ cap l Tryz.underlying35 Tryz.underlying5 Tryz.underlying9 (fun j hj=>h.cells (g:=g) rfl j _ (by simp [Lib.byteCells,hj]))
theorem row_not_iter {w:World} {B e size n:Nat} {v:Value} {xs:List Value} {k pos:Nat} {s:ByteArray} (h:w.ownsRow B e size v n xs) (hk:w.heap[k]?=some (.stringIter s pos)):some k≠v.ownBlock:=by
  intro c
  rcases h.2 with ⟨rfl,_⟩|⟨g,cap,cur,rfl,_,hg,_⟩
  · simp [Value.ownBlock] at c
  · simp only [Value.ownBlock,Option.some.injEq] at c
    rw [c,hg] at hk;cases hk
theorem row_iter {w:World} {B e size n:Nat} {v:Value} {xs:List Value} {k pos:Nat} {s:ByteArray} (h:w.ownsRow B e size v n xs) (hk:w.heap[k]?=some (.stringIter s pos)) (q:Nat):(w.iterAt k s q).ownsRow B e size v n xs:=by
  refine⟨h.1,?_⟩
  rcases h.2 with h0|⟨g,cap,cur,hv,hb,hg,r⟩
  · exact .inl h0
  · refine .inr ⟨g,cap,cur,hv,hb,?_,r⟩
    rw [Lib.iterAt_other w k g s q (fun c=>by subst c;rw [hk] at hg;cases hg),hg]
theorem row_some {w:World} {B e size n:Nat} {v:Value} {xs:List Value} (h:w.ownsRow B e size v (n+1) xs):∃g cap,v=.slice (some ⟨g,0,none⟩) (n+1) cap:=by
  rcases h.2 with ⟨_,h0⟩|⟨g,cap,cur,hv,_⟩
  · omega
  · exact⟨g,cap,hv⟩
theorem row_slice {w:World} {B e size n:Nat} {v:Value} {xs:List Value} (h:w.ownsRow B e size v n xs):∃a cap,v=.slice a n cap:=by
  rcases h.2 with ⟨hv,h0⟩|⟨g,cap,cur,hv,_⟩
  · subst h0;exact⟨none,0,hv⟩
  · exact⟨_,cap,hv⟩
theorem taken_more {w W w3:World} {v v3:Value} {o:Obj} {S:ByteArray} {t:List UInt8} {c:UInt8} {k:Nat} (hown:W.ownsRow w.heap.size 5 1 v t.length (Lib.byteCells t)) (hit:W.heap[w.heap.size]?=some (.stringIter S k)) (hbw:Below w.heap.size w W) (hgrow:(W.alloc o).grownBy w3 v.ownBlock) (hown3:w3.ownsRow w.heap.size 5 1 v3 (t.length+1) (Lib.byteCells t++[.int .u8 c.toNat])):Below w.heap.size w w3∧w3.heap[w.heap.size]?=some (.stringIter S k)∧w3.ownsRow w.heap.size 5 1 v3 (t++[c]).length (Lib.byteCells (t++[c])):=by
 have hlt:w.heap.size<W.heap.size:=(Array.getElem?_eq_some_iff.1 hit).1;refine⟨(hbw.alloc (by omega) _).grown hgrow (by simp;omega) (fun k hk=>(hown.lt k hk).1),?_,?_⟩
 ·rw [hgrow.block w.heap.size (by simp;omega) (row_not_iter hown hit),Below.heap_alloc _ _ _ hlt,hit]
 ·rw [Lib.byteCells_append,List.length_append];exact hown3
def Taken (s S:ByteArray) (w:World) (v o:Value) (wr:World):Prop :=
  ∃ (k:Nat) (t:List UInt8) (b:Bool),o=.bool b∧wr.ownsRow w.heap.size 5 1 v t.length (Lib.byteCells t)∧wr.heap[w.heap.size]?=some (.stringIter S k)∧Below w.heap.size w wr∧k≤S.size∧t.length≤4096 ∧
    Hid (unquoteS s.data.toList=unq (S.data.toList.drop k) t b k)
theorem unquote_calls (s:ByteArray) (w:World) (hs:s.size≤281474976710656) (h1:1≤s.size):Calls Tryz.prog 243 #[.string s] w fun e w'=>e=.returned (.tuple #[.string (bs (unquoteS s.data.toList).1),.int .i64 (unquoteS s.data.toList).2])∧Below w.heap.size w w':=by
 obtain⟨i0,hi,hz0,hz1,hz2⟩:=info_parts info_byte;(have HU:=Hd (show unquoteS s.data.toList=unq ((s.extract 1 s.size).data.toList.drop 0) [] false 0 by rw [drop_bs s 1,bs_data];rfl));(have hS1:(s.extract 1 s.size).size≤281474976710656:=by rw [drop_bs s 1,bs_size,List.length_drop,←Lib.size_eq];omega);obtain⟨S,hS⟩:∃S,s.extract 1 s.size=S:=⟨_,rfl⟩;rw [hS] at HU hS1;(go_enter Tryz.func243,Tryz.ntmps243);go_wp2;clear hS;go_loopw [4,5] (fun v o wr=>Taken s S w v o wr) (fun _ _ wr=>S.size-wr.iterPos w.heap.size)
 case atStart=>exact⟨0,[],false,rfl,World.ownsRow_nil _ _ _ _,World.iter_heap w S 0,iter_below _ _ _,Nat.zero_le _,Nat.zero_le _,HU⟩
 case round =>
  obtain⟨k,t,b,rfl,hown,hit,hbw,hk,ht,HT⟩:=hrel;have hsz:w.heap.size<wr.heap.size:=(Array.getElem?_eq_some_iff.1 hit).1;by_cases hp:k<S.size
  ·(have hnx:∀ty,(Instr.next (.pointer (some ⟨w.heap.size,0,none⟩)) true ty).run Tryz.prog wr=_:=fun ty=>Lib.run_next_any_at wr w.heap.size S k ty hit hp);have hr:=rune_of S k hp;(have hl:k<S.data.toList.length:=by simpa using hp);have hd:1≤(Utf8.decode S k).2:=width_pos S k hp;have hown2:=row_iter hown hit (k+(Utf8.decode S k).2);have hit2:=Lib.iterAt_heap wr w.heap.size S k (k+(Utf8.decode S k).2) hit;have hbw2:=Lib.below_iterAt hbw (k:=w.heap.size) (Nat.le_refl _) S (k+(Utf8.decode S k).2);(have hsz2:w.heap.size<(wr.iterAt w.heap.size S (k+(Utf8.decode S k).2)).heap.size:=by rw [Lib.iterAt_size];exact hsz);generalize ((Utf8.decode S k).1:Int)=r at hr hnx;generalize (Utf8.decode S k).2=d at hr hd hnx hown2 hit2 hbw2 hsz2;obtain⟨W2,hW2⟩:∃W2,wr.iterAt w.heap.size S (k+d)=W2:=⟨_,rfl⟩;rw [hW2] at hnx hown2 hit2 hbw2 hsz2;clear hown hbw hsz hW2;have HI:=Hd hit;have HI2:=Hd hit2;clear hit hit2;cases b with
   | true =>
     by_cases he:(escZ r).2=true
     ·(have hlow:¬128≤r:=fun h=>by rw [escZ_high h] at he;cases he);(obtain⟨hrb,rfl⟩:=hr.resolve_right fun h=>hlow h.1);obtain⟨c,hc⟩:∃c,escB S.data.toList[k]=some c:=by
       cases hc:escB S.data.toList[k] with
       | some c=>exact⟨c,rfl⟩
       | none=>rw [hrb,escZ_none hc] at he;cases he
      (have hz1':(escZ r).1=(c.toNat:Int):=by rw [hrb,(escZ_some hc).1]);have hc256:c.toNat<256:=c.toNat_lt;have h0:=unq_esc S.data.toList t k hl hc;have H0:=Hd h0;clear h0 hr hrb hc hlow;(go_wp2_with (first|(go_at_call 264;refine (escaped_calls _ _).mono ?_;rintro e w' ⟨rfl,hw⟩;obtain rfl:=hw.symm)|(at_builtin;go_must (refine wpList_append_own _ rfl (.tmp 31) (.tmp 33) 35 rfl w.heap.size 5 i0 (.int .u8 0) 1 1 Tryz.underlying35 hi hz0 hz1 hz2 rfl (by decide) _ _ _ rfl (hown2.alloc _) ⟨W2.heap.size,0,none⟩ 1 1 [.int .u8 c.toNat] rfl rfl (cell_one_new _ _ _) (by intro u hu;simp at hu;subst hu;rfl) (by unfold maxLen;omega) (by omega) (by simp;omega) ?_;intro v3 w3 hown3 hgrow3 hnil3;obtain⟨g3,cap3,hv3⟩:=row_some hown3;subst hv3;have HN3:=Hd hnil3;clear hnil3;have HO3:=Hd hown3;clear hown3;have HG3:=Hd hgrow3;clear hgrow3))));all_goals obtain⟨hb3,hi3,ho3⟩:=taken_more hown2 HI2.out hbw2 HG3.out HO3.out
      ·go_ret2;exact⟨by rw [HT.out,H0.out,if_pos (by omega)];rfl,hb3⟩
      ·(refine⟨⟨k+1,t++[c],false,rfl,ho3,hi3,hb3,by omega,by simp;omega,Hd (by rw [HT.out,H0.out,if_neg (by omega)])⟩,?_⟩);(simp only [World.iterPos,hi3,HI.out]);omega
     ·(have he':(escZ r).2=false:=by simpa using he);clear he;have h0:=unq_esc_no S.data.toList t k hl (by
       cases hc:escB S.data.toList[k] with
       | none=>rfl
       | some c =>
         have:=escZ_some hc;rcases hr with h|h
         ·rw [h.1,this.1] at he';cases he'
         ·omega)
      have H0:=Hd h0;clear h0 hr;(go_wp2_with (go_at_call 264;refine (escaped_calls _ _).mono ?_;rintro e w' ⟨rfl,rfl⟩));go_ret2;exact⟨by rw [HT.out,H0.out];rfl,hbw2⟩
   | false =>
     by_cases e34:r=34
     ·(obtain⟨hrb,rfl⟩:=hr.resolve_right fun h=>by omega);(have H0:=Hd (unq_close S.data.toList t k hl (by omega)));clear hr hrb;subst e34;have hcv:=convert_own hown2;go_wp2;go_ret2;exact⟨by rw [HT.out,H0.out];exact ret_si rfl (by simp),hbw2⟩
     ·have g34:(r==34)=false:=beq_eq_false_iff_ne.2 e34;by_cases e92:r=92
      ·(obtain⟨hrb,rfl⟩:=hr.resolve_right fun h=>by omega);(have H0:=Hd (unq_open S.data.toList t k hl (by omega)));clear hr hrb;subst e92;obtain⟨av,cv,rfl⟩:=row_slice hown2;go_wp2;(refine⟨⟨k+1,t,true,rfl,hown2,HI2.out,hbw2,by omega,ht,Hd (by rw [HT.out,H0.out])⟩,?_⟩);(simp only [World.iterPos,HI2.out,HI.out]);omega
      ·have g92:(r==92)=false:=beq_eq_false_iff_ne.2 e92;have E92:=Hd e92;have E34:=Hd e34;clear e92 e34;by_cases hbad:r<32∨litZ r=false
       ·have H0:=Hd (unq_bad S.data.toList t k hl (by rcases hr with h|h<;>have:=E34.out<;>omega) (by rcases hr with h|h<;>have:=E92.out<;>omega) (by
         rcases hr with h|h
         ·rw [←h.1];exact hbad
         ·exact .inr (lit_high h.2)))
        clear hr;by_cases h32:r<32
        ·clear hbad;go_wp2;go_ret2;exact⟨by rw [HT.out,H0.out];rfl,hbw2⟩
        ·have hlit:litZ r=false:=hbad.resolve_left h32;clear hbad;(go_wp2_with (go_at_call 261;refine (isLiteralByte_calls _ _).mono ?_;rintro e w' ⟨rfl,hw⟩;obtain rfl:=hw.symm));go_ret2;exact⟨by rw [HT.out,H0.out];rfl,hbw2⟩
       ·(have h32:¬r<32:=fun h=>hbad (.inl h));have hlit:litZ r=true:=by
         cases e:litZ r with
         | true=>rfl
         | false=>exact absurd (.inr e) hbad
        clear hbad;(have hlow:¬128≤r:=fun h=>by rw [lit_high h] at hlit;cases hlit);(obtain⟨hrb,rfl⟩:=hr.resolve_right fun h=>hlow h.1);clear hr;(have H0:=Hd (unq_take S.data.toList t k hl (by have:=E34.out;omega) (by have:=E92.out;omega) (by omega) (by rw [←hrb];exact hlit)));generalize S.data.toList[k]=c at hrb H0;have hc256:c.toNat<256:=c.toNat_lt;subst hrb;(go_wp2_with (first|(go_at_call 261;refine (isLiteralByte_calls _ _).mono ?_;rintro e w' ⟨rfl,hw⟩;obtain rfl:=hw.symm)|(at_builtin;go_must (refine wpList_append_own _ rfl (.tmp 17) (.tmp 20) 35 rfl w.heap.size 5 i0 (.int .u8 0) 1 1 Tryz.underlying35 hi hz0 hz1 hz2 rfl (by decide) _ _ _ rfl (hown2.alloc _) ⟨W2.heap.size,0,none⟩ 1 1 [.int .u8 c.toNat] rfl rfl (cell_one_new _ _ _) (by intro u hu;simp at hu;subst hu;rfl) (by unfold maxLen;omega) (by omega) (by simp;omega) ?_;intro v3 w3 hown3 hgrow3 hnil3;obtain⟨g3,cap3,hv3⟩:=row_some hown3;subst hv3;have HN3:=Hd hnil3;clear hnil3;have HO3:=Hd hown3;clear hown3;have HG3:=Hd hgrow3;clear hgrow3))));all_goals obtain⟨hb3,hi3,ho3⟩:=taken_more hown2 HI2.out hbw2 HG3.out HO3.out
        ·go_ret2;exact⟨by rw [HT.out,H0.out,if_pos (by omega)];rfl,hb3⟩
        ·(refine⟨⟨k+1,t++[c],false,rfl,ho3,hi3,hb3,by omega,by simp;omega,Hd (by rw [HT.out,H0.out,if_neg (by omega)])⟩,?_⟩);(simp only [World.iterPos,hi3,HI.out]);omega
  ·(have hnx:∀ty,(Instr.next (.pointer (some ⟨w.heap.size,0,none⟩)) true ty).run Tryz.prog wr=_:=fun ty=>Lib.run_next_end_at wr w.heap.size S k ty hit hp);(have h0:=Hd (unq_end t b S.data.toList k (by simpa using (by omega:S.size≤k))));clear hit;go_wp2;go_ret2;exact⟨by rw [HT.out,h0.out];rfl,hbw⟩
end
section
open Go.RowKit
theorem unquoteS_le (s:ByteArray) (h:1≤s.size):(unquoteS s.data.toList).2≤s.size:=by
  have:=unq_le (s.data.toList.drop 1) [] false 0
  rw [List.length_drop,←Lib.size_eq] at this
  unfold unquoteS;omega
theorem lit_below {w w1 w2:World} {R T:Obj} (hb1:Below (w.alloc R).heap.size (w.alloc R) w1) (hb2:Below (w1.alloc T).heap.size (w1.alloc T) w2):Below w.heap.size w w2:=by
  have h:=hb1.size
  rw [World.size_alloc] at h
  exact ((one_box hb1).alloc (by omega) _).trans (hb2.mono (by rw [World.size_alloc];omega))
theorem res_cell1 {w w1:World} {R:Obj} (hb1:Below (w.alloc R).heap.size (w.alloc R) w1) (T:Obj) {o:Nat} {v:Value} (h:(w.alloc R).cell? ⟨w.heap.size,o,none⟩=some v):(w1.alloc T).cell? ⟨w.heap.size,o,none⟩=some v:=by
  have hz:=hb1.size
  rw [World.size_alloc] at hz
  have e:=World.cell?_alloc_lt w1 T ⟨w.heap.size,o,none⟩ (show w.heap.size<w1.heap.size by omega)
  rw [e,hb1.cell (p:=⟨w.heap.size,o,none⟩) (by rw [World.size_alloc];exact Nat.lt_succ_self _),h]
theorem res_cell {w w1 w2:World} {R T:Obj} (hb1:Below (w.alloc R).heap.size (w.alloc R) w1) (hb2:Below (w1.alloc T).heap.size (w1.alloc T) w2) {o:Nat} {v:Value} (h:(w.alloc R).cell? ⟨w.heap.size,o,none⟩=some v):w2.cell? ⟨w.heap.size,o,none⟩=some v:=by
  have hz:=hb1.size
  rw [World.size_alloc] at hz
  rw [hb2.cell (p:=⟨w.heap.size,o,none⟩) (by rw [World.size_alloc];show w.heap.size<_;omega),res_cell1 hb1 T h]
theorem literalAhead_calls (s:ByteArray) (w:World) (hs:s.size≤281474976710656) (h1:1≤s.size):Calls Tryz.prog 204 #[.string s] w fun e w'=>e=.returned (.tuple #[(literalS s.data.toList).1.v,.int .i64 (literalS s.data.toList).2])∧Below w.heap.size w w':=by
 have hn:=unquoteS_le s h1;(have hS:=Hd (show literalS s.data.toList=_ from by unfold literalS;rfl));(go_enter Tryz.func204,Tryz.ntmps204);(go_wp2_with fail);refine (unquote_calls _ _ hs h1).mono ?_;rintro e w1 ⟨rfl,hb1⟩;obtain⟨hc,hf⟩:=bcell hb1;(have hz:w.heap.size<w1.heap.size:=by have:=hb1.size;simp at this;omega);generalize unquoteS s.data.toList=p at hn hS;obtain⟨x,n⟩:=p;(simp only at hS hn);by_cases h0:n=0
 ·(have g0:((n:Int)==0)=true:=beq_iff_eq.2 (by omega));have hS':=Hd (hS.out.trans (if_pos h0));clear h0 hS;go_wp2;(refine bodyPost_ret (v:=.tuple #[noTerm.v,.int .i64 0]) (by simp [results,Tryz.results204,noTerm,TermL.v,bs_nil,hc,go_sem]) rfl ⟨by rw [hS'.out];rfl,?_⟩);exact ((((one_box hb1).setCell (Nat.le_refl _) _).setCell (Nat.le_refl _) _).setCell (Nat.le_refl _) _).setCell (Nat.le_refl _) _
 ·(have g0:((n:Int)==0)=false:=beq_eq_false_iff_ne.2 (by omega));have hS':=Hd (hS.out.trans (if_neg h0));clear hS;(go_wp2_with fail);rw [drop_bs s n];(have hL:(s.data.toList.drop n).length≤281474976710656:=by rw [List.length_drop,←Lib.size_eq];omega);generalize List.drop n s.data.toList=L at hL hS';refine (Tryz.strings_HasPrefix _ _ _).mono ?_;rintro e w0 ⟨rfl,hw⟩;obtain rfl:=hw.symm;rw [bs_data];by_cases hp:Lib.hasPrefix L [94,94]=true
  ·have hl2:2≤L.length:=Lib.hasPrefix_le hp;have ht:=typeS_le L;(have hS2:=Hd (hS'.out.trans (show _=(TermL.mk 2 x (typeS L).1 [],n+(typeS L).2) by unfold tagS;rw [if_pos hp])));clear hS';(go_wp2_with fail);(refine (typeAhead_calls (bs L) _ (by rw [bs_size];exact hL) (by rw [bs_size];exact hl2)).mono ?_);rintro e w2 ⟨rfl,hb2⟩;rw [bs_data];obtain⟨hc2,hf2⟩:=bcell hb2;(have hz2:w1.heap.size<w2.heap.size:=by have:=hb2.size;simp at this;omega);generalize typeS L=q at ht hS2;obtain⟨y,m⟩:=q;(simp only at ht hS2);go_wp2;have q:=@res_cell w w1 w2 _ _ hb1 hb2;(have q0:=q (o:=0) (v:=.int .i64 0) (by simp [go_sem]));(have q1:=q (o:=1) (v:=.string ⟨#[]⟩) (by simp [go_sem]));(have q2:=q (o:=2) (v:=.string ⟨#[]⟩) (by simp [go_sem]));(have q3:=q (o:=3) (v:=.string ⟨#[]⟩) (by simp [go_sem]));(refine bodyPost_ret (v:=.tuple #[.agg #[.int .i64 2,.string (bs x),.string (bs y),.string ⟨#[]⟩],.int .i64 (n+m)]) (by simp [results,Tryz.results204,q0,q1,q2,q3,go_sem]) rfl ⟨by rw [hS2.out];rfl,?_⟩);exact (((((lit_below hb1 hb2).setCell (by simp;omega) _).setCell (Nat.le_refl _) _).setCell (Nat.le_refl _) _).setCell (Nat.le_refl _) _).setCell (Nat.le_refl _) _
  ·(have hp':Lib.hasPrefix L [94,94]=false:=by simpa using hp);clear hp;(go_wp2_with fail);refine (Tryz.strings_HasPrefix _ _ _).mono ?_;rintro e w0 ⟨rfl,hw⟩;obtain rfl:=hw.symm;rw [bs_data];by_cases hq:Lib.hasPrefix L [64]=true
   ·have hl2:1≤L.length:=Lib.hasPrefix_le hq;have ht:=langS_le L;(have hS2:=Hd (hS'.out.trans (show _=(TermL.mk 2 x [] (langS L).1,n+(langS L).2) by unfold tagS;rw [hp',if_neg (by simp),if_pos hq])));clear hS';(go_wp2_with fail);(refine (langAhead_calls (bs L) _ (by rw [bs_size];exact hL) (by rw [bs_size];exact hl2)).mono ?_);rintro e w2 ⟨rfl,hb2⟩;rw [bs_data];obtain⟨hc2,hf2⟩:=bcell hb2;(have hz2:w1.heap.size<w2.heap.size:=by have:=hb2.size;simp at this;omega);generalize langS L=q at ht hS2;obtain⟨y,m⟩:=q;(simp only at ht hS2);go_wp2;have q:=@res_cell w w1 w2 _ _ hb1 hb2;(have q0:=q (o:=0) (v:=.int .i64 0) (by simp [go_sem]));(have q1:=q (o:=1) (v:=.string ⟨#[]⟩) (by simp [go_sem]));(have q2:=q (o:=2) (v:=.string ⟨#[]⟩) (by simp [go_sem]));(have q3:=q (o:=3) (v:=.string ⟨#[]⟩) (by simp [go_sem]));(refine bodyPost_ret (v:=.tuple #[.agg #[.int .i64 2,.string (bs x),.string ⟨#[]⟩,.string (bs y)],.int .i64 (n+m)]) (by simp [results,Tryz.results204,q0,q1,q2,q3,go_sem]) rfl ⟨by rw [hS2.out];rfl,?_⟩);exact (((((lit_below hb1 hb2).setCell (by simp;omega) _).setCell (Nat.le_refl _) _).setCell (Nat.le_refl _) _).setCell (Nat.le_refl _) _).setCell (Nat.le_refl _) _
   ·(have hq':Lib.hasPrefix L [64]=false:=by simpa using hq);clear hq;(have hS2:=Hd (hS'.out.trans (show _=(TermL.mk 2 x [] [],n) by unfold tagS;rw [hp',hq',if_neg (by simp),if_neg (by simp)];rfl)));clear hS';go_wp2;(have q0:w1.cell? ⟨w.heap.size,0,none⟩=some (.int .i64 0):=by rw [hc _ _ (by simp)];simp [go_sem]);(have q1:w1.cell? ⟨w.heap.size,1,none⟩=some (.string ⟨#[]⟩):=by rw [hc _ _ (by simp)];simp [go_sem]);(have q2:w1.cell? ⟨w.heap.size,2,none⟩=some (.string ⟨#[]⟩):=by rw [hc _ _ (by simp)];simp [go_sem]);(have q3:w1.cell? ⟨w.heap.size,3,none⟩=some (.string ⟨#[]⟩):=by rw [hc _ _ (by simp)];simp [go_sem]);(refine bodyPost_ret (v:=.tuple #[.agg #[.int .i64 2,.string (bs x),.string ⟨#[]⟩,.string ⟨#[]⟩],.int .i64 n]) (by simp [results,Tryz.results204,q0,q1,q2,q3,hz,World.cell?_alloc_lt,go_sem]) rfl ⟨by rw [hS2.out];rfl,?_⟩);exact (((((one_box hb1).setCell (Nat.le_refl _) _).setCell (Nat.le_refl _) _).setCell (Nat.le_refl _) _).setCell (Nat.le_refl _) _).alloc (by simp;omega) _
theorem Prefix_calls (s:ByteArray) (w:World) (hs:s.size≤281474976710656):Calls Tryz.prog 145 #[.string s] w fun e w'=>e=.returned (.tuple #[(prefixS s.data.toList).1.v,.int .i64 (prefixS s.data.toList).2])∧Below w.heap.size w w':=by
 (have hS:=Hd (show prefixS s.data.toList=_ from by unfold prefixS;rfl));(go_enter Tryz.func145,Tryz.ntmps145);(go_wp2_with fail);refine (Tryz.strings_HasPrefix _ _ _).mono ?_;rintro e w0 ⟨rfl,hw⟩;obtain rfl:=hw.symm;by_cases h1:Lib.hasPrefix s.data.toList [60]=true
 ·replace hS:=Hd (hS.out.trans (if_pos h1));(go_wp2_with fail);refine (iriAhead_calls _ _ hs).mono ?_;rintro e w1 ⟨rfl,hb1⟩;obtain⟨hc,hf⟩:=bcell hb1;(have hz:w.heap.size<w1.heap.size:=by have:=hb1.size;simp at this;omega);generalize iriS s.data.toList=p at hS;obtain⟨⟨k,x,y,z⟩,n⟩:=p;(simp only [TermL.v]);go_wp2;(refine bodyPost_ret (v:=.tuple #[.agg #[.int .i64 k,.string (bs x),.string (bs y),.string (bs z)],.int .i64 n]) (by simp [results,Tryz.results145,hc,go_sem]) rfl ⟨by rw [hS.out];rfl,?_⟩);exact ((((one_box hb1).setCell (Nat.le_refl _) _).setCell (Nat.le_refl _) _).setCell (Nat.le_refl _) _).setCell (Nat.le_refl _) _
 ·replace hS:=Hd (hS.out.trans (if_neg h1));(have h1':Lib.hasPrefix s.data.toList [60]=false:=by simpa using h1);clear h1;(go_wp2_with fail);refine (Tryz.strings_HasPrefix _ _ _).mono ?_;rintro e w0 ⟨rfl,hw⟩;obtain rfl:=hw.symm;by_cases h2:Lib.hasPrefix s.data.toList [95,58]=true
  ·replace hS:=Hd (hS.out.trans (if_pos h2));have hl:2≤s.size:=pre_le h2;(go_wp2_with fail);(refine (namedAhead_calls 3 s 2 _ hs (by omega) (by omega) (by omega)).mono ?_);rintro e w1 ⟨rfl,hb1⟩;obtain⟨hc,hf⟩:=bcell hb1;(have hz:w.heap.size<w1.heap.size:=by have:=hb1.size;simp at this;omega);(rw [show (2:Int).toNat=2 from rfl]);generalize namedS 3 s.data.toList 2=p at hS;obtain⟨⟨k,x,y,z⟩,n⟩:=p;(simp only [TermL.v]);go_wp2;(refine bodyPost_ret (v:=.tuple #[.agg #[.int .i64 k,.string (bs x),.string (bs y),.string (bs z)],.int .i64 n]) (by simp [results,Tryz.results145,hc,go_sem]) rfl ⟨by rw [hS.out];rfl,?_⟩);exact ((((one_box hb1).setCell (Nat.le_refl _) _).setCell (Nat.le_refl _) _).setCell (Nat.le_refl _) _).setCell (Nat.le_refl _) _
  ·replace hS:=Hd (hS.out.trans (if_neg h2));(have h2':Lib.hasPrefix s.data.toList [95,58]=false:=by simpa using h2);clear h2;(go_wp2_with fail);refine (Tryz.strings_HasPrefix _ _ _).mono ?_;rintro e w0 ⟨rfl,hw⟩;obtain rfl:=hw.symm;by_cases h3:Lib.hasPrefix s.data.toList [63]=true
   ·replace hS:=Hd (hS.out.trans (if_pos h3));have hl:1≤s.size:=pre_le h3;(go_wp2_with fail);(refine (namedAhead_calls 4 s 1 _ hs (by omega) (by omega) (by omega)).mono ?_);rintro e w1 ⟨rfl,hb1⟩;obtain⟨hc,hf⟩:=bcell hb1;(have hz:w.heap.size<w1.heap.size:=by have:=hb1.size;simp at this;omega);(rw [show (1:Int).toNat=1 from rfl]);generalize namedS 4 s.data.toList 1=p at hS;obtain⟨⟨k,x,y,z⟩,n⟩:=p;(simp only [TermL.v]);go_wp2;(refine bodyPost_ret (v:=.tuple #[.agg #[.int .i64 k,.string (bs x),.string (bs y),.string (bs z)],.int .i64 n]) (by simp [results,Tryz.results145,hc,go_sem]) rfl ⟨by rw [hS.out];rfl,?_⟩);exact ((((one_box hb1).setCell (Nat.le_refl _) _).setCell (Nat.le_refl _) _).setCell (Nat.le_refl _) _).setCell (Nat.le_refl _) _
   ·replace hS:=Hd (hS.out.trans (if_neg h3));(have h3':Lib.hasPrefix s.data.toList [63]=false:=by simpa using h3);clear h3;(go_wp2_with fail);refine (Tryz.strings_HasPrefix _ _ _).mono ?_;rintro e w0 ⟨rfl,hw⟩;obtain rfl:=hw.symm;by_cases h4:Lib.hasPrefix s.data.toList [34]=true
    ·replace hS:=Hd (hS.out.trans (if_pos h4));have hl:1≤s.size:=pre_le h4;(go_wp2_with fail);refine (literalAhead_calls _ _ hs hl).mono ?_;rintro e w1 ⟨rfl,hb1⟩;obtain⟨hc,hf⟩:=bcell hb1;(have hz:w.heap.size<w1.heap.size:=by have:=hb1.size;simp at this;omega);generalize literalS s.data.toList=p at hS;obtain⟨⟨k,x,y,z⟩,n⟩:=p;(simp only [TermL.v]);go_wp2;(refine bodyPost_ret (v:=.tuple #[.agg #[.int .i64 k,.string (bs x),.string (bs y),.string (bs z)],.int .i64 n]) (by simp [results,Tryz.results145,hc,go_sem]) rfl ⟨by rw [hS.out];rfl,?_⟩);exact ((((one_box hb1).setCell (Nat.le_refl _) _).setCell (Nat.le_refl _) _).setCell (Nat.le_refl _) _).setCell (Nat.le_refl _) _
    ·replace hS:=Hd (hS.out.trans (if_neg h4));(have h4':Lib.hasPrefix s.data.toList [34]=false:=by simpa using h4);clear h4;go_wp2;(refine bodyPost_ret (v:=.tuple #[noTerm.v,.int .i64 0]) (by simp [results,Tryz.results145,noTerm,TermL.v,bs_nil,go_sem]) rfl ⟨by rw [hS.out];rfl,?_⟩);exact box_below _ _
end
end Go.Proofs.YtjpfoophipcglaaGreatDoor
