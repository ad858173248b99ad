/- No part of a term is longer than the text that it is taken off. -/
import Derived.Test.YtjpfoophipcglaaGreatDoorKQChecks
import Derived.Test.YtjpfoophipcglaaGreatDoorKLexWords
namespace Go.Proofs.YtjpfoophipcglaaGreatDoor
set_option maxRecDepth 100000
set_option maxHeartbeats 8000000
theorem unq_len:∀(l t:List UInt8) (o:Bool) (i:Nat),(unq l t o i).1.length≤t.length+l.length:=by
  intro l
  induction l with
  | nil=>intro t o i;simp [unq]
  | cons b r ih =>
    intro t o i
    cases o with
    | true =>
      simp only [unq]
      split
      · simp
      · split
        · simp
        · rename_i c _ _;have:=ih (t++[c]) false (i+1);simp at this ⊢;omega
    | false =>
      rw [unq_cons]
      split
      · simp
      · split
        · have:=ih t true (i+1);simp;omega
        · split
          · simp
          · split
            · simp
            · have:=ih (t++[b]) false (i+1);simp at this ⊢;omega
def TermL.short (t:TermL) (n:Nat):Prop:=t.x.length≤n∧t.y.length≤n∧t.z.length≤n
theorem short_none (n:Nat):noTerm.short n:=⟨Nat.zero_le _,Nat.zero_le _,Nat.zero_le _⟩
theorem bracket_short (l:List UInt8):(bracketS l).1.length≤l.length:=by
  unfold bracketS
  split
  · split
    · simp
    · simp only [List.length_take,List.length_drop];omega
  · simp
theorem tag_short (l:List UInt8):(tagS l).1.length≤l.length∧(tagS l).2.1.length≤l.length:=by
  unfold tagS
  split
  · refine⟨?_,by simp⟩
    have:=bracket_short (l.drop 2)
    rw [List.length_drop] at this
    unfold typeS
    split<;>dsimp only
    · simp
    · omega
  · split
    · refine⟨by simp,?_⟩
      unfold langS
      split
      · simp
      · simp only [List.length_take,List.length_drop];omega
    · simp
theorem named_short (k:Int) (l:List UInt8) (n:Nat):(namedS k l n).1.short l.length:=by
  unfold namedS
  split
  · exact short_none _
  · exact⟨by simp only [List.length_take,List.length_drop];omega,Nat.zero_le _,Nat.zero_le _⟩
theorem prefix_short' (l:List UInt8):(prefixS l).1.short l.length:=by
 (unfold prefixS);split
 ·(unfold iriS);split
  ·exact short_none _
  ·exact⟨bracket_short l,Nat.zero_le _,Nat.zero_le _⟩
 ·split
  ·exact named_short 3 l 2
  ·split
   ·exact named_short 4 l 1
   ·split
    ·(unfold literalS);split
     ·exact short_none _
     ·have h1:=unq_len (l.drop 1) [] false 0;have h2:=tag_short (l.drop (unquoteS l).2);rw [List.length_drop] at h1 h2;(refine⟨?_,by have:=h2.1;dsimp only;omega,by have:=h2.2;dsimp only;omega⟩);(show (unq (l.drop 1) [] false 0).1.length≤_);rw [List.length_nil] at h1;omega
    ·exact short_none _
theorem TermL.short.ok {t:TermL} {n:Nat} (h:t.short n) (hn:n≤281474976710656):t.ok :=
  ⟨by have:=h.1;rw [bs_size];unfold maxLen;omega,by have:=h.2.1;rw [bs_size];unfold maxLen;omega,by have:=h.2.2;rw [bs_size];unfold maxLen;omega⟩
def TxOk (V:List (List UInt8)):Prop:=∀x∈V,(bs x).size≤maxLen
theorem tx_nil:TxOk []:=fun _ h=>by cases h
theorem tx_snoc {V:List (List UInt8)} {x:List UInt8} (h:TxOk V) (hx:(bs x).size≤maxLen):TxOk (V++[x]):=fun y hy=>by
  rcases List.mem_append.1 hy with h1|h1
  · exact h y h1
  · rw [List.mem_singleton.1 h1];exact hx
theorem leaf_small {o:OpL} (h:OpOk o) (cert:Bool):TxOk (leafO o cert):=by
  intro x hx
  unfold leafO at hx
  rcases mem_vpart.1 hx with h1|⟨j,hj,h1,_⟩
  · unfold tpart at h1
    rcases mem_allL.1 h1 with h2|⟨t,ht,h2⟩
    · cases h2
    · exact varsL_small (h.t t ht) h2
  · rw [List.getD_eq_getElem?_getD,List.getElem?_eq_getElem hj] at h1
    rw [←h1]
    exact h.v _ (List.getElem_mem hj)
theorem namesF_small {C:List OpL} (h:OpsOk C) (cert:Bool):∀f i,TxOk (namesF C cert f i)
  | 0,_=>fun x hx=>by cases hx
  | f+1,i=>by
    have ih:=namesF_small h cert f
    intro x hx
    rw [namesF] at hx
    split at hx
    · rename_i hl
      have ho:=h _ (List.getElem_mem hl)
      split at hx
      · exact leaf_small ho cert x hx
      · split at hx
        · split at hx
          · cases hx
          · split at hx
            · rcases mem_moreO.1 hx with rfl|h1
              · exact ho.m
              · exact ih _ x h1
            · exact ih _ x hx
        · split at hx
          · exact ih _ x hx
          · split at hx
            · exact ih _ x (mem_meetO.1 hx).1
            · rcases mem_unionO.1 hx with h1|h1
              · exact ih _ x h1
              · exact ih _ x h1
    · cases hx
theorem star_small {C:List OpL} (h:OpsOk C):TxOk (starM C):=by
  unfold starM
  split
  · exact namesF_small h false _ _
  · exact tx_nil
theorem star_few (C:List OpL):(starM C).length≤1000000:=by
 (unfold starM);split
 ·rename_i h0;have e0:resE C=0:=by
   by_cases c:resE C=0
   ·exact c
   ·rw [atE_err c] at h0;exact absurd h0 c
  (have hi:¬((C.length:Int)-1<0∨(C.length:Int)≤(C.length:Int)-1):=fun c=>by rw [atE_range e0 c] at h0;cases h0);have hl:=resE_few e0;rw [resE_is] at e0;have hsh:shB C=true:=by
   (unfold checkC at e0);(rw [if_neg (by omega)] at e0);split at e0
   ·cases e0
   ·rename_i c;cases hs:shB C with
    | true=>rfl
    | false=>exact absurd (.inl hs) c
  exact Nat.le_trans (names_few hsh hl false _ (C.length-1) (Nat.lt_succ_self _) (by omega)) (by decide)
 ·exact Nat.zero_le _
def AgOk (G:List AggL):Prop:=∀g∈G,(bs g.o).size≤maxLen∧(bs g.m).size≤maxLen
theorem over_ok {L:List TokL} (E:TOk L) {k:Int} {a:Nat} {o:List UInt8×Nat} (h:overM L k a=some o):(bs o.1).size≤maxLen:=by
  unfold overM at h
  split at h
  · split at h
    · split at h
      · simp at h;rw [←h];exact bs_ok nil_ok
      · cases h
    · split at h
      · simp at h;rw [←h];exact bs_ok (E.at _).1
      · cases h
  · cases h
theorem agg_ok {L:List TokL} (E:TOk L) {a:Nat} {g:AggL×Nat} (h:aggM L a=some g):(bs g.1.o).size≤maxLen∧(bs g.1.m).size≤maxLen:=by
  unfold aggM at h
  split at h
  · cases h
  · rename_i o ho
    split at h
    · simp at h;rw [←h];exact⟨over_ok E ho,bs_ok (E.at _).1⟩
    · cases h
structure ColOk (L:List TokL) (s:CS):Prop where
  v:TxOk s.V
  g:AgOk s.G
  nv:s.V.length≤s.a
  ng:s.G.length≤s.a
  le:s.a≤L.length
theorem col_ok {L:List TokL} (E:TOk L) {s t:CS} (h:colM L s=some t) (hs:ColOk L s):ColOk L t:=by
 have hgo:=col_goes h;(unfold colM at h);split at h
 ·split at h
  ·cases h
  ·rename_i g hg;have ha:=agg_ok E hg;have hn:=agg_goes hg;split at h
   ·(simp at h;rw [←h]);have h1:=hs.nv;have h2:=hs.ng;(refine⟨tx_snoc hs.v ha.2,fun x hx=>?_,by simp;omega,by simp;omega,by rw [←h] at hgo;exact hgo.2⟩);rcases List.mem_append.1 hx with h3|h3
    ·exact hs.g x h3
    ·rw [List.mem_singleton.1 h3];exact ha
   ·cases h
 ·split at h
  ·(simp at h;rw [←h]);have h1:=hs.nv;have h2:=hs.ng;exact⟨tx_snoc hs.v (bs_ok (E.at _).1),hs.g,by simp;omega,by dsimp only;omega,by rw [←h] at hgo;exact hgo.2⟩
  ·cases h
theorem cols_ok {L:List TokL} (E:TOk L):∀(f:Nat) (s t:CS),colsM L f s=some t→ColOk L s→ColOk L t
  | 0,_,_,h,_=>by cases h
  | f+1,s,t,h,hs=>by
    rw [colsM] at h
    split at h
    · cases h
    · rename_i u hu
      have hu2:=col_ok E hu hs
      split at h
      · simp at h;rw [←h];exact hu2
      · exact cols_ok E f u t h hu2
theorem vars_ok {L:List TokL} (E:TOk L):∀(f a:Nat) (B:List (List UInt8)) (r:Nat×List (List UInt8)),varsM L f a B=some r→TxOk B→B.length≤a→TxOk r.2∧r.2.length≤r.1∧r.1≤L.length
  | 0,_,_,_,h,_,_=>by cases h
  | f+1,a,B,r,h,hB,hl=>by
    rw [varsM] at h
    split at h
    · rename_i hv
      have hlt:=isVar_lt hv
      have h2:=tx_snoc hB (bs_ok (E.at a).1)
      split at h
      · exact vars_ok E f _ _ r h h2 (by simp;omega)
      · simp at h;rw [←h];exact⟨h2,by simp;omega,by dsimp only;omega⟩
    · cases h
def KyOk (O:List KeyL):Prop:=∀k∈O,(bs k.m).size≤maxLen
theorem key_ok {L:List TokL} (E:TOk L) {a:Nat} {k:KeyL×Nat} (h:keyM L a=some k):(bs k.1.m).size≤maxLen:=by
  unfold keyM at h
  split at h
  · split at h
    · simp at h;rw [←h];exact bs_ok (E.at _).1
    · cases h
  · split at h
    · simp at h;rw [←h];exact bs_ok (E.at _).1
    · cases h
theorem keys_ok {L:List TokL} (E:TOk L):∀(f a:Nat) (O:List KeyL) (r:Nat×List KeyL),keysM L f a O=some r→KyOk O→O.length≤a→KyOk r.2∧r.2.length≤r.1∧r.1≤L.length
  | 0,_,_,_,h,_,_=>by cases h
  | f+1,a,O,r,h,hO,hl=>by
    rw [keysM] at h
    split at h
    · cases h
    · rename_i k hk
      have hg:=key_goes hk
      have h2:KyOk (O++[k.1]):=fun x hx=>by
        rcases List.mem_append.1 hx with h3|h3
        · exact hO x h3
        · rw [List.mem_singleton.1 h3];exact key_ok E hk
      split at h
      · exact keys_ok E f _ _ r h h2 (by simp;omega)
      · simp at h;rw [←h];exact⟨h2,by simp;omega,hg.2⟩
theorem head_ok {L:List TokL} (E:TOk L) {a:Nat} (ha:a≤L.length) {h:CS×Bool} (hh:headM L a=some h):ColOk L h.1:=by
  unfold headM at hh
  split at hh
  · rename_i hs
    have:=isW_lt hs
    simp at hh;rw [←hh];exact⟨tx_nil,fun _ h=>(by cases h),Nat.zero_le _,Nat.zero_le _,by dsimp only;omega⟩
  · split at hh
    · cases hh
    · rename_i s hs
      simp at hh;rw [←hh];exact cols_ok E _ _ _ hs ⟨tx_nil,fun _ h=>(by cases h),Nat.zero_le _,Nat.zero_le _,ha⟩
theorem read_ok {L:List TokL} (E:TOk L) (hL:L.length≤100000) {q:QueryL×Nat} (h:readM L=some q):QOk q.1:=by
 (have hG:∀a,OpsOk (groupAt L a).C:=fun a=>(runQ_ok E _).grp a ops_nil);(unfold readM at h);split at h
 ·split at h
  ·(simp at h;rw [←h]);exact⟨tx_nil,fun _ h=>(by cases h),tx_nil,fun _ h=>(by cases h),hG _,Nat.zero_le _,Nat.zero_le _,Nat.zero_le _,Nat.zero_le _⟩
  ·cases h
 ·split at h
  ·rename_i hs;have h1L:=isW_lt hs;(unfold selectM at h);split at h
   ·cases h
   ·rename_i t ht;(have hd:stepA (isW L 1 1 kDISTINCT) 1≤L.length:=step_le (by omega));have hT:TxOk t.V∧AgOk t.G∧OpsOk t.C∧t.V.length≤1000000∧t.G.length≤1000000∧t.a≤L.length:=by
     (unfold tableM at ht);split at ht
     ·cases ht
     ·rename_i hh hhe;have hc:=head_ok E hd hhe;have c1:=hc.nv;have c2:=hc.ng;have c3:=hc.le;split at ht
      ·rename_i hw;have hwl:=isW_lt hw;split at ht
       ·(simp at ht;rw [←ht]);dsimp only;(have hga:(groupAt L (hh.1.a+1)).a≤L.length:=(((run_most L _).1).unf (hh.1.a+1) [] (by omega)).2.1);cases hh.2 with
        | true=>exact⟨star_small (hG _),hc.g,hG _,star_few _,by omega,hga⟩
        | false=>exact⟨hc.v,hc.g,hG _,by show hh.1.V.length≤_;omega,by omega,hga⟩
       ·cases ht
      ·cases ht
    obtain⟨v1,g1,o1,n1,n2,a1⟩:=hT;(unfold tailM at h);split at h
    ·cases h
    ·rename_i b hb;have hB:TxOk b.2∧b.2.length≤1000000:=by
      (unfold groupM at hb);split at hb
      ·split at hb
       ·rename_i h2 _;obtain⟨k1,k2,k3⟩:=vars_ok E _ _ _ _ hb tx_nil (Nat.zero_le _);exact⟨k1,by omega⟩
       ·cases hb
      ·simp at hb;rw [←hb];exact⟨tx_nil,Nat.zero_le _⟩
     split at h
     ·cases h
     ·rename_i o ho;have hO:KyOk o.2∧o.2.length≤1000000:=by
       (unfold orderM at ho);split at ho
       ·split at ho
        ·(obtain⟨k1,k2,k3⟩:=keys_ok E _ _ _ _ ho (fun _ h=>by cases h) (Nat.zero_le _));exact⟨k1,by omega⟩
        ·cases ho
       ·simp at ho;rw [←ho];exact⟨fun _ h=>(by cases h),Nat.zero_le _⟩
      split at h
      ·cases h
      ·split at h
       ·cases h
       ·(simp at h;rw [←h]);exact⟨v1,g1,hB.1,hO.1,o1,n1,n2,hB.2,hO.2⟩
  ·cases h
def TokSh (n:Nat) (t:TokL):Prop:=t.x.length≤n∧(t.t.x.length≤n+100∧t.t.y.length≤n+100∧t.t.z.length≤n+100)
theorem toksh_no (n:Nat):TokSh n noTok:=⟨Nat.zero_le _,Nat.zero_le _,Nat.zero_le _,Nat.zero_le _⟩
theorem toksh_x {n:Nat} {k:Int} {x:List UInt8} {a:Int} (h:x.length≤n):TokSh n ⟨k,x,noTerm,a⟩:=⟨h,Nat.zero_le _,Nat.zero_le _,Nat.zero_le _⟩
theorem word_short (l:List UInt8):TokSh l.length (wordS l).1:=by
 (unfold wordS);split
 ·obtain⟨h1,h2,h3⟩:=prefix_short' l;(unfold termTok);split
  ·exact toksh_x h1
  ·exact⟨Nat.zero_le _,by dsimp only;omega,by dsimp only;omega,by dsimp only;omega⟩
 ·split
  ·exact toksh_x (by simp only [List.length_take];omega)
  ·split
   ·(unfold digitsS);split
    ·exact⟨Nat.zero_le _,by simp only [List.length_take];omega,Nat.le_trans (show decT.length≤100 by decide) (by omega),Nat.zero_le _⟩
    ·exact toksh_x (by simp only [List.length_take];omega)
   ·(unfold signS);split
    ·exact toksh_no _
    ·exact toksh_x (by simp only [List.length_take];omega)
theorem next_short (l:List UInt8) (a:Nat):TokSh l.length (nextS l a).1:=by
  unfold nextS
  split
  · exact toksh_no _
  · split
    · exact toksh_no _
    · have h:=word_short (l.drop (begS l a))
      rw [List.length_drop] at h
      obtain⟨h1,h2,h3,h4⟩:=h
      exact⟨by unfold TokL.at;dsimp only;omega,by unfold TokL.at;dsimp only;omega,by unfold TokL.at;dsimp only;omega,by unfold TokL.at;dsimp only;omega⟩
theorem toks_short (l:List UInt8):∀f a,(∀t∈(toksS l f a).1,TokSh l.length t)∧(toksS l f a).1.length≤f
  | 0,a=>⟨fun t h=>(by cases h),Nat.le_refl _⟩
  | f+1,a=>by
    rw [toksS]
    split
    · exact⟨fun t h=>(by cases h),Nat.zero_le _⟩
    · split
      · exact⟨fun t h=>(by cases h),Nat.zero_le _⟩
      · split
        · obtain⟨h1,h2⟩:=toks_short l f (nextS l a).2.1
          refine⟨fun t h=>?_,by simp;omega⟩
          rcases List.mem_cons.1 h with rfl|h3
          · exact next_short l a
          · exact h1 t h3
        · exact⟨fun t h=>(by cases h),Nat.zero_le _⟩
theorem lex_short (l:List UInt8):(∀t∈(lexS l).1,TokSh 4096 t)∧(lexS l).1.length≤4097:=by
  unfold lexS
  split
  · exact⟨fun t h=>(by cases h),Nat.zero_le _⟩
  · obtain⟨h1,h2⟩:=toks_short l (l.length+1) 0
    refine⟨fun t ht=>?_,by omega⟩
    obtain⟨k1,k2,k3,k4⟩:=h1 t ht
    exact⟨by omega,by omega,by omega,by omega⟩
theorem lex_tok (l:List UInt8):TOk (lexS l).1:=⟨fun t ht=>by
  obtain⟨k1,k2,k3,k4⟩:=(lex_short l).1 t ht
  exact⟨by unfold maxLen;omega,by unfold maxLen;omega,by unfold maxLen;omega,by unfold maxLen;omega⟩⟩
theorem lex_env (l:List UInt8):Env (lexS l).1 :=
  ⟨by have:=(lex_short l).2;omega,(lex_tok l).ok,fun t ht=>by have:=((lex_short l).1 t ht).1;omega,low_c⟩
section
open Go.RowKit
theorem ErrG.up {A B:Nat} {w:World} (h:ErrG A w) (hAB:A≤B):ErrG B w:=by
  obtain⟨e1,e2,h1,h2,h3,h4,h5,h6⟩:=h
  exact⟨e1,e2,h1,h2,h3,h4,Nat.lt_of_lt_of_le h5 hAB,Nat.lt_of_lt_of_le h6 hAB⟩
theorem is_nil (X:Nat) (k:Int) (s:ByteArray) (w:World) (c0:w.cell? ⟨X,0,none⟩=some (.slice none 0 0)) (c1:w.cell? ⟨X,1,none⟩=some (.int .i64 0)):Calls Tryz.prog 114 #[.pointer (some ⟨X,0,none⟩),.int .i64 k,.string s] w fun e w'=>e=.returned (.bool false)∧∃n,w'=w.drewN n:=by
  go_enter Tryz.func114,Tryz.ntmps114
  go_wp2
  go_quiet (fail)
  go_wp2
  go_ret
  exact⟨rfl,_,rfl⟩
theorem word_nil (X:Nat) (s:ByteArray) (w:World) (c0:w.cell? ⟨X,0,none⟩=some (.slice none 0 0)) (c1:w.cell? ⟨X,1,none⟩=some (.int .i64 0)):Calls Tryz.prog 31 #[.pointer (some ⟨X,0,none⟩),.string s] w fun e w'=>e=.returned (.bool false)∧∃n,w'=w.drewN n:=by
 have HT:Hid (Calls Tryz.prog 76 #[.pointer (some ⟨X,0,none⟩),.int .i64 1,.string s] w fun e w'=>e=.returned (.bool false)∧∃n,w'=w.drewN n):=Hd (by
  have HI:=Hd (is_nil X 1 s w c0 c1);(go_enter Tryz.func76,Tryz.ntmps76);(go_wp2_with fail);refine HI.out.mono ?_;rintro e w1 ⟨rfl,n,rfl⟩;go_wp2;go_ret;exact⟨rfl,n,rfl⟩)
 (go_enter Tryz.func31,Tryz.ntmps31);(go_wp2_with fail);refine HT.out.mono ?_;rintro e w1 ⟨rfl,n,rfl⟩;go_wp2;go_ret;exact⟨rfl,n,rfl⟩
theorem read_nil (X:Nat) (w:World) (cs:Array Value) (hb:Blk w X 44 cs) (h0:cs[0]?=some (.slice none 0 0)) (h1:cs[1]?=some (.int .i64 0)) (h9:cs[9]?=some (.int .i64 0)):Calls Tryz.prog 14 #[.pointer (some ⟨X,0,none⟩)] w fun e w'=>e=.returned (.bool false)∧Below X w w':=by
 have HB:=Hd (blk_set hb 9 (.int .i64 (-1)));(have HW:=Hd (fun (s:ByteArray) (n:Nat)=>word_nil X s ((w.setCell ⟨X,9,none⟩ (.int .i64 (-1))).drewN n) (by show (w.setCell ⟨X,9,none⟩ (.int .i64 (-1))).cell? _=_;rw [blk_cell HB.out];simpa using h0) (by show (w.setCell ⟨X,9,none⟩ (.int .i64 (-1))).cell? _=_;rw [blk_cell HB.out];simpa using h1)));(have c9:w.cell? ⟨X,9,none⟩=some (.int .i64 0):=by rw [blk_cell hb];exact h9);(have cf:=fun i=>blk_free hb i);clear hb h0 h1 h9;(go_enter Tryz.func14,Tryz.ntmps14);(go_wp2_with fail);refine (HW.out _ 0).mono ?_;rintro e w1 ⟨rfl,n,rfl⟩;(go_wp2_with fail);refine (HW.out _ n).mono ?_;rintro e w2 ⟨rfl,m,rfl⟩;go_wp2;go_ret;exact⟨rfl,below_drawn ((Below.refl _ _).setCell (p:=⟨X,9,none⟩) (Nat.le_refl _) _) (n+m)⟩
def lay10 (w:World) (Z:Nat) (v0 v1 v2 v3 v4 v5 v6 v7 v8 v9:Value):World :=
  (((((((((w.setCell ⟨Z,0,none⟩ v0).setCell ⟨Z,1,none⟩ v1).setCell ⟨Z,2,none⟩ v2).setCell ⟨Z,3,none⟩ v3).setCell ⟨Z,4,none⟩ v4).setCell ⟨Z,5,none⟩ v5).setCell ⟨Z,6,none⟩ v6).setCell ⟨Z,7,none⟩ v7).setCell ⟨Z,8,none⟩ v8).setCell ⟨Z,9,none⟩ v9
theorem lay_blk {w:World} {Z:Nat} {T:TypeId} {a0 a1 a2 a3 a4 a5 a6 a7 a8 a9:Value} (h:Blk w Z T #[a0,a1,a2,a3,a4,a5,a6,a7,a8,a9]) (v0 v1 v2 v3 v4 v5 v6 v7 v8 v9:Value):Blk (lay10 w Z v0 v1 v2 v3 v4 v5 v6 v7 v8 v9) Z T #[v0,v1,v2,v3,v4,v5,v6,v7,v8,v9]:=by
  have:=blk_set (blk_set (blk_set (blk_set (blk_set (blk_set (blk_set (blk_set (blk_set (blk_set h 0 v0) 1 v1) 2 v2) 3 v3) 4 v4) 5 v5) 6 v6) 7 v7) 8 v8) 9 v9
  simpa [lay10] using this
theorem lay_below {w0 w:World} {B Z:Nat} (h:Below B w0 w) (hZ:B≤Z) (v0 v1 v2 v3 v4 v5 v6 v7 v8 v9:Value):Below B w0 (lay10 w Z v0 v1 v2 v3 v4 v5 v6 v7 v8 v9) :=
  (((((((((h.setCell (p:=⟨Z,0,none⟩) hZ v0).setCell (p:=⟨Z,1,none⟩) hZ v1).setCell (p:=⟨Z,2,none⟩) hZ v2).setCell (p:=⟨Z,3,none⟩) hZ v3).setCell (p:=⟨Z,4,none⟩) hZ v4).setCell (p:=⟨Z,5,none⟩) hZ v5).setCell (p:=⟨Z,6,none⟩) hZ v6).setCell (p:=⟨Z,7,none⟩) hZ v7).setCell (p:=⟨Z,8,none⟩) hZ v8).setCell (p:=⟨Z,9,none⟩) hZ v9
theorem lay_heap {w:World} {Z k:Nat} (hk:k≠Z) (v0 v1 v2 v3 v4 v5 v6 v7 v8 v9:Value):(lay10 w Z v0 v1 v2 v3 v4 v5 v6 v7 v8 v9).heap[k]?=w.heap[k]?:=by
  unfold lay10
  repeat rw [heap_setCell_other _ _ k _ (fun e=>hk (by first|simpa using e|simpa using e.symm))]
theorem zero_nostr {s:ByteArray}:∀o:Nat,(#[.bool false,.bool false,.slice none 0 0,.slice none 0 0,.bool false,.slice none 0 0,.slice none 0 0,.int .i64 0,.int .i64 0,.slice none 0 0]:Array Value)[o]?≠some (.string s)
  | 0=>fun h=>by cases (Option.some.inj h)
  | 1=>fun h=>by cases (Option.some.inj h)
  | 2=>fun h=>by cases (Option.some.inj h)
  | 3=>fun h=>by cases (Option.some.inj h)
  | 4=>fun h=>by cases (Option.some.inj h)
  | 5=>fun h=>by cases (Option.some.inj h)
  | 6=>fun h=>by cases (Option.some.inj h)
  | 7=>fun h=>by cases (Option.some.inj h)
  | 8=>fun h=>by cases (Option.some.inj h)
  | 9=>fun h=>by cases (Option.some.inj h)
  | o+10=>fun h=>by
    rw [Array.getElem?_eq_none (by simp)] at h
    cases h
def QParT (w:World) (r:QueryL×Int) (e:Ending) (w':World):Prop :=
  ∃S:QS,e=.returned (.tuple #[qv r.1 S,.int .i64 r.2])∧QA w' r.1 S∧Below w.heap.size w w'
def noS:QS:=⟨none,0,none,0,none,0,none,0,none,0⟩
theorem noq_in (w:World):QA w noQ noS:=⟨txt0 w,ag0 w,txt0 w,ky0 w,⟨rfl,Nat.le_refl _,Nat.zero_le _,fun h=>absurd h (Nat.lt_irrefl _)⟩⟩
theorem parse_calls (s:ByteArray) (w:World) (hg:Good w.heap.size w) (he:ErrG w.heap.size w):Calls Tryz.prog 5 #[.string s] w (QParT w (parseQ s.data.toList)):=by
 have HG:=Hd hg;have HE:=Hd he;(have HLX:=Hd (fun W=>Lex_calls s W));have HENV:=Hd (lex_env s.data.toList);have HPQ:=Hd (show parseQ s.data.toList=(if (lexS s.data.toList).2.2≠0 then (noQ,(lexS s.data.toList).2.2) else match readM (lexS s.data.toList).1 with
  | none=>(noQ,2)
  | some q=>if q.2<(lexS s.data.toList).1.length then (noQ,2) else if checkQ q.1≠0 then (noQ,checkQ q.1) else (q.1,0)) from rfl)
 (have HRO:=Hd (fun q (h:readM (lexS s.data.toList).1=some q)=>read_ok ⟨HENV.out.ok⟩ HENV.out.len h));generalize parseQ s.data.toList=R at HPQ ⊢;generalize lexS s.data.toList=X0 at HLX HENV HPQ HRO;obtain⟨L,n0,E⟩:=X0;dsimp only at HENV HPQ HRO;clear hg he;by_cases hE:E=0
 ·subst hE;(have HP2:=Hd (HPQ.out.trans (if_neg (fun c=>c rfl))));clear HPQ;obtain⟨r,hr⟩:∃r,readM L=r:=⟨_,rfl⟩;rw [hr] at HP2;(have HRO2:=Hd (fun q (h:r=some q)=>HRO.out q (hr.trans h)));(have HN0:=Hd (fun (h:L.length=0)=>show readM L=none from by rw [List.eq_nil_of_length_eq_zero h];rfl));have HRE:=Hd hr;clear HRO;(go_enter Tryz.func5,Tryz.ntmps5);(go_wp2_with fail);refine (HLX.out _).mono ?_;rintro e w1 ⟨v,rfl,hown,hb1⟩;have HOWN:=Hd hown;(have HB1:=Hd ((box_below w (.cells #[.bool false,.bool false,.slice none 0 0,.slice none 0 0,.bool false,.slice none 0 0,.slice none 0 0,.int .i64 0,.int .i64 0,.slice none 0 0] 27)).trans (hb1.mono (by simp))));(have HZ1:=Hd (blk_on (blk_new w 27 #[.bool false,.bool false,.slice none 0 0,.slice none 0 0,.bool false,.slice none 0 0,.slice none 0 0,.int .i64 0,.int .i64 0,.slice none 0 0]) hb1 (by simp)));clear hb1 hown;obtain⟨N,hN⟩:∃N,L.length=N:=⟨_,rfl⟩;rcases treads_of HOWN.out with ⟨hv,h0⟩|⟨g,cap,hv,hg,hn,hm,hc⟩
  ·subst hv;have hrn:r=none:=HRE.out.symm.trans (HN0.out h0);subst hrn;(have HP3:=Hd (show R=(noQ,2) from HP2.out));have HB9:=Hd (blk_new w1 44 #[(.slice none 0 0),.int .i64 0,.bool false,.bool false,(.slice none 0 0),(.slice none 0 0),.bool false,(.slice none 0 0),(.slice none 0 0),.int .i64 0,.int .i64 0,(.slice none 0 0)]);have HRN:=Hd (read_nil w1.heap.size _ _ HB9.out rfl rfl rfl);clear HP2 HRO2 HN0 HRE hr hN h0;(go_wp2_with fail);refine HRN.out.mono ?_;rintro e w3 ⟨rfl,hb3⟩;have HZ3:=Hd (blk_on (blk_on HZ1.out (box_below _ _) (blk_lt HZ1.out)) hb3 (blk_lt HZ1.out));have HB3:=Hd (HB1.out.trans (((box_below w1 (.cells #[(.slice none 0 0),.int .i64 0,.bool false,.bool false,(.slice none 0 0),(.slice none 0 0),.bool false,(.slice none 0 0),(.slice none 0 0),.int .i64 0,.int .i64 0,(.slice none 0 0)] 44)).trans (hb3.mono (Nat.le_refl _))).mono HB1.out.size));clear hb3;have z0:=bq HZ3.out 0 (v:=.bool false);have z1:=bq HZ3.out 1 (v:=.bool false);have z2:=bq HZ3.out 2 (v:=.slice none 0 0);have z3:=bq HZ3.out 3 (v:=.slice none 0 0);have z4:=bq HZ3.out 4 (v:=.bool false);have z5:=bq HZ3.out 5 (v:=.slice none 0 0);have z6:=bq HZ3.out 6 (v:=.slice none 0 0);have z7:=bq HZ3.out 7 (v:=.int .i64 0);have z8:=bq HZ3.out 8 (v:=.int .i64 0);have z9:=bq HZ3.out 9 (v:=.slice none 0 0);(have zf:=fun i=>blk_free HZ3.out i);have HZF:=Hd (lay_blk HZ3.out (.bool false) (.bool false) (.slice none 0 0) (.slice none 0 0) (.bool false) (.slice none 0 0) (.slice none 0 0) (.int .i64 0) (.int .i64 0) (.slice none 0 0));have HBF:=Hd (lay_below (Z:=w.heap.size) HB3.out (Nat.le_refl _) (.bool false) (.bool false) (.slice none 0 0) (.slice none 0 0) (.bool false) (.slice none 0 0) (.slice none 0 0) (.int .i64 0) (.int .i64 0) (.slice none 0 0));go_wp2;obtain⟨W9,hW9⟩:∃W9,W9=lay10 w3 w.heap.size (.bool false) (.bool false) (.slice none 0 0) (.slice none 0 0) (.bool false) (.slice none 0 0) (.slice none 0 0) (.int .i64 0) (.int .i64 0) (.slice none 0 0):=⟨_,rfl⟩;(unfold lay10 at hW9);rw [←hW9];(rw [show lay10 w3 w.heap.size (.bool false) (.bool false) (.slice none 0 0) (.slice none 0 0) (.bool false) (.slice none 0 0) (.slice none 0 0) (.int .i64 0) (.int .i64 0) (.slice none 0 0)=W9 from hW9.symm] at HZF HBF);clear hW9;have y0:=bq HZF.out 0 (v:=.bool false);have y1:=bq HZF.out 1 (v:=.bool false);have y2:=bq HZF.out 2 (v:=.slice none 0 0);have y3:=bq HZF.out 3 (v:=.slice none 0 0);have y4:=bq HZF.out 4 (v:=.bool false);have y5:=bq HZF.out 5 (v:=.slice none 0 0);have y6:=bq HZF.out 6 (v:=.slice none 0 0);have y7:=bq HZF.out 7 (v:=.int .i64 0);have y8:=bq HZF.out 8 (v:=.int .i64 0);have y9:=bq HZF.out 9 (v:=.slice none 0 0);(refine bodyPost_ret (v:=.tuple #[.agg #[.bool false,.bool false,.slice none 0 0,.slice none 0 0,.bool false,.slice none 0 0,.slice none 0 0,.int .i64 0,.int .i64 0,.slice none 0 0],.int .i64 2]) (by simp [results,Tryz.results5,go_sem,y0,y1,y2,y3,y4,y5,y6,y7,y8,y9]) rfl ?_);rw [HP3.out];exact⟨noS,rfl,noq_in _,HBF.out⟩
  ·subst hv;have hzl:=blk_lt HZ1.out;(letI:Rsv:=⟨fun k=>k=w.heap.size⟩);(have HTK:TokS w1.heap.size (.slice (some ⟨g,0,none⟩) L.length cap) L w1:=⟨⟨g,cap,rfl,hg,hn,fun k hk=>toks_cell hc k hk⟩⟩);obtain⟨W2,hW2⟩:∃W2,W2=w1.alloc (.cells #[.slice (some ⟨g,0,none⟩) L.length cap,.int .i64 0,.bool false,.bool false,(.slice none 0 0),(.slice none 0 0),.bool false,(.slice none 0 0),(.slice none 0 0),.int .i64 0,.int .i64 0,(.slice none 0 0)] 44):=⟨_,rfl⟩;(have hbx:Below w1.heap.size w1 W2:=by rw [hW2];exact box_below _ _);have hgd:Good w1.heap.size w1:=(HG.out.on HB1.out).up HB1.out.size;have HQ0:=Hd (show QRd w1.heap.size w1.heap.size (.slice (some ⟨g,0,none⟩) L.length cap) L 0 Uz [] (.slice none 0 0) W2 from ⟨by rw [hW2];exact blk_new _ _ _,⟨[],rfl,World.ownsRow_nil _ _ _ _,fun p hp=>by cases hp⟩,Nat.le_refl _,HTK.on hbx,hgd.on hbx,Nat.zero_le _,fun k hk=>by
    have hk2:k=w.heap.size:=hk;have:=hbx.size;omega⟩)
   have HRD:=Hd (read_calls HQ0.out HENV.out (((HE.out.on HB1.out).up HB1.out.size).on hbx) (fun k hk=>by
    have hk2:k=w.heap.size:=hk;omega) (fun k hk o s=>by
    have hk2:k=w.heap.size:=hk;subst hk2;rw [hbx.cell (p:=⟨w.heap.size,o,none⟩) hzl,blk_cell HZ1.out];exact zero_nostr o))
   rw [HRE.out] at HRD;have HBX:=Hd hbx;cases r with
   | none =>
     (have HP3:=Hd (show R=(noQ,2) from HP2.out));clear HP2 HRO2 HN0 HRE hr hn hm hc HTK hgd hN;(go_wp2_with fail);rw [←hW2];refine HRD.out.mono ?_;rintro e w3 ⟨rfl,hb3⟩;have HZ3:=Hd (blk_on (blk_on HZ1.out hbx hzl) hb3 hzl);have HB3:=Hd (HB1.out.trans ((hbx.trans hb3).mono HB1.out.size));clear hb3 hbx;have z0:=bq HZ3.out 0 (v:=.bool false);have z1:=bq HZ3.out 1 (v:=.bool false);have z2:=bq HZ3.out 2 (v:=.slice none 0 0);have z3:=bq HZ3.out 3 (v:=.slice none 0 0);have z4:=bq HZ3.out 4 (v:=.bool false);have z5:=bq HZ3.out 5 (v:=.slice none 0 0);have z6:=bq HZ3.out 6 (v:=.slice none 0 0);have z7:=bq HZ3.out 7 (v:=.int .i64 0);have z8:=bq HZ3.out 8 (v:=.int .i64 0);have z9:=bq HZ3.out 9 (v:=.slice none 0 0);(have zf:=fun i=>blk_free HZ3.out i);have HZF:=Hd (lay_blk HZ3.out (.bool false) (.bool false) (.slice none 0 0) (.slice none 0 0) (.bool false) (.slice none 0 0) (.slice none 0 0) (.int .i64 0) (.int .i64 0) (.slice none 0 0));have HBF:=Hd (lay_below (Z:=w.heap.size) HB3.out (Nat.le_refl _) (.bool false) (.bool false) (.slice none 0 0) (.slice none 0 0) (.bool false) (.slice none 0 0) (.slice none 0 0) (.int .i64 0) (.int .i64 0) (.slice none 0 0));go_wp2;obtain⟨W9,hW9⟩:∃W9,W9=lay10 w3 w.heap.size (.bool false) (.bool false) (.slice none 0 0) (.slice none 0 0) (.bool false) (.slice none 0 0) (.slice none 0 0) (.int .i64 0) (.int .i64 0) (.slice none 0 0):=⟨_,rfl⟩;(unfold lay10 at hW9);rw [←hW9];(rw [show lay10 w3 w.heap.size (.bool false) (.bool false) (.slice none 0 0) (.slice none 0 0) (.bool false) (.slice none 0 0) (.slice none 0 0) (.int .i64 0) (.int .i64 0) (.slice none 0 0)=W9 from hW9.symm] at HZF HBF);clear hW9;have y0:=bq HZF.out 0 (v:=.bool false);have y1:=bq HZF.out 1 (v:=.bool false);have y2:=bq HZF.out 2 (v:=.slice none 0 0);have y3:=bq HZF.out 3 (v:=.slice none 0 0);have y4:=bq HZF.out 4 (v:=.bool false);have y5:=bq HZF.out 5 (v:=.slice none 0 0);have y6:=bq HZF.out 6 (v:=.slice none 0 0);have y7:=bq HZF.out 7 (v:=.int .i64 0);have y8:=bq HZF.out 8 (v:=.int .i64 0);have y9:=bq HZF.out 9 (v:=.slice none 0 0);(refine bodyPost_ret (v:=.tuple #[.agg #[.bool false,.bool false,.slice none 0 0,.slice none 0 0,.bool false,.slice none 0 0,.slice none 0 0,.int .i64 0,.int .i64 0,.slice none 0 0],.int .i64 2]) (by simp [results,Tryz.results5,go_sem,y0,y1,y2,y3,y4,y5,y6,y7,y8,y9]) rfl ?_);rw [HP3.out];exact⟨noS,rfl,noq_in _,HBF.out⟩
   | some qb =>
     obtain⟨q,b⟩:=qb;have HOK:=Hd (HRO2.out (q,b) rfl);dsimp only at HOK;(have HP3:=Hd (show R=(if b<L.length then (noQ,2) else if checkQ q≠0 then (noQ,checkQ q) else (q,0)) from HP2.out));rw [hN] at HRD HQ0 HP3 hn hW2 ⊢;clear HP2 HRO2 HN0 HRE hr hm hc HTK hgd;by_cases hbn:b<N
     ·(have HP4:=Hd (show R=(noQ,2) from by rw [HP3.out,if_pos hbn]));clear HP3;(go_wp2_with fail);rw [←hW2];refine HRD.out.mono ?_;rintro e w3 ⟨rfl,S,hblk,_,hb3,hheld,_⟩;have HBK3:=Hd hblk;have HH3:=Hd hheld;have HZ3:=Hd (blk_on (blk_on HZ1.out hbx hzl) hb3 hzl);have HB3:=Hd (HB1.out.trans ((hbx.trans hb3).mono HB1.out.size));clear hb3 hbx hblk hheld;have x0:=bq HBK3.out 0 (v:=(Value.slice (some ⟨g,0,none⟩) N cap));have x1:=bq HBK3.out 1 (v:=.int .i64 b);have x2:=bq HBK3.out 2 (v:=.bool q.ask);have x3:=bq HBK3.out 3 (v:=.bool q.dist);have x4:=bq HBK3.out 4 (v:=.slice S.va q.V.length S.vc);have x5:=bq HBK3.out 5 (v:=.slice S.ga q.G.length S.gc);have x6:=bq HBK3.out 6 (v:=.bool q.gr);have x7:=bq HBK3.out 7 (v:=.slice S.ba q.B.length S.bc);have x8:=bq HBK3.out 8 (v:=.slice S.oa q.O.length S.oc);have x9:=bq HBK3.out 9 (v:=.int .i64 q.lim);have x10:=bq HBK3.out 10 (v:=.int .i64 q.off);have x11:=bq HBK3.out 11 (v:=.slice S.ca q.C.length S.cc);(have xf:=fun i=>blk_free HBK3.out i);have hX3:=blk_lt HBK3.out;(have hi:(b:Int)<(N:Int):=by omega);have z0:=bq HZ3.out 0 (v:=.bool false);have z1:=bq HZ3.out 1 (v:=.bool false);have z2:=bq HZ3.out 2 (v:=.slice none 0 0);have z3:=bq HZ3.out 3 (v:=.slice none 0 0);have z4:=bq HZ3.out 4 (v:=.bool false);have z5:=bq HZ3.out 5 (v:=.slice none 0 0);have z6:=bq HZ3.out 6 (v:=.slice none 0 0);have z7:=bq HZ3.out 7 (v:=.int .i64 0);have z8:=bq HZ3.out 8 (v:=.int .i64 0);have z9:=bq HZ3.out 9 (v:=.slice none 0 0);(have zf:=fun i=>blk_free HZ3.out i);have HZF:=Hd (lay_blk HZ3.out (.bool false) (.bool false) (.slice none 0 0) (.slice none 0 0) (.bool false) (.slice none 0 0) (.slice none 0 0) (.int .i64 0) (.int .i64 0) (.slice none 0 0));have HBF:=Hd (lay_below (Z:=w.heap.size) HB3.out (Nat.le_refl _) (.bool false) (.bool false) (.slice none 0 0) (.slice none 0 0) (.bool false) (.slice none 0 0) (.slice none 0 0) (.int .i64 0) (.int .i64 0) (.slice none 0 0));go_wp2;obtain⟨W9,hW9⟩:∃W9,W9=lay10 w3 w.heap.size (.bool false) (.bool false) (.slice none 0 0) (.slice none 0 0) (.bool false) (.slice none 0 0) (.slice none 0 0) (.int .i64 0) (.int .i64 0) (.slice none 0 0):=⟨_,rfl⟩;(unfold lay10 at hW9);rw [←hW9];(rw [show lay10 w3 w.heap.size (.bool false) (.bool false) (.slice none 0 0) (.slice none 0 0) (.bool false) (.slice none 0 0) (.slice none 0 0) (.int .i64 0) (.int .i64 0) (.slice none 0 0)=W9 from hW9.symm] at HZF HBF);clear hW9;have y0:=bq HZF.out 0 (v:=.bool false);have y1:=bq HZF.out 1 (v:=.bool false);have y2:=bq HZF.out 2 (v:=.slice none 0 0);have y3:=bq HZF.out 3 (v:=.slice none 0 0);have y4:=bq HZF.out 4 (v:=.bool false);have y5:=bq HZF.out 5 (v:=.slice none 0 0);have y6:=bq HZF.out 6 (v:=.slice none 0 0);have y7:=bq HZF.out 7 (v:=.int .i64 0);have y8:=bq HZF.out 8 (v:=.int .i64 0);have y9:=bq HZF.out 9 (v:=.slice none 0 0);(refine bodyPost_ret (v:=.tuple #[.agg #[.bool false,.bool false,.slice none 0 0,.slice none 0 0,.bool false,.slice none 0 0,.slice none 0 0,.int .i64 0,.int .i64 0,.slice none 0 0],.int .i64 2]) (by simp [results,Tryz.results5,go_sem,y0,y1,y2,y3,y4,y5,y6,y7,y8,y9]) rfl ?_);rw [HP4.out];exact⟨noS,rfl,noq_in _,HBF.out⟩
     ·(have HCK:=Hd (fun S W h=>qCheck_calls q S HOK.out W h));by_cases hz:checkQ q=0
      ·(have HP4:=Hd (show R=(q,0) from by rw [HP3.out,if_neg hbn,if_neg (fun c=>c hz)]));rw [hz] at HCK;clear HP3 hz;(go_wp2_with fail);rw [←hW2];refine HRD.out.mono ?_;rintro e w3 ⟨rfl,S,hblk,_,hb3,hheld,_⟩;have HBK3:=Hd hblk;have HH3:=Hd hheld;have HZ3:=Hd (blk_on (blk_on HZ1.out hbx hzl) hb3 hzl);have HB3:=Hd (HB1.out.trans ((hbx.trans hb3).mono HB1.out.size));clear hb3 hbx hblk hheld;have x0:=bq HBK3.out 0 (v:=(Value.slice (some ⟨g,0,none⟩) N cap));have x1:=bq HBK3.out 1 (v:=.int .i64 b);have x2:=bq HBK3.out 2 (v:=.bool q.ask);have x3:=bq HBK3.out 3 (v:=.bool q.dist);have x4:=bq HBK3.out 4 (v:=.slice S.va q.V.length S.vc);have x5:=bq HBK3.out 5 (v:=.slice S.ga q.G.length S.gc);have x6:=bq HBK3.out 6 (v:=.bool q.gr);have x7:=bq HBK3.out 7 (v:=.slice S.ba q.B.length S.bc);have x8:=bq HBK3.out 8 (v:=.slice S.oa q.O.length S.oc);have x9:=bq HBK3.out 9 (v:=.int .i64 q.lim);have x10:=bq HBK3.out 10 (v:=.int .i64 q.off);have x11:=bq HBK3.out 11 (v:=.slice S.ca q.C.length S.cc);(have xf:=fun i=>blk_free HBK3.out i);have hX3:=blk_lt HBK3.out;(have hi:¬(b:Int)<(N:Int):=by omega);(go_wp2_with fail);refine (HCK.out S w3 HH3.out.now).mono ?_;rintro e w4 ⟨rfl,hb4⟩;have HZ4:=Hd (blk_on HZ3.out hb4 (blk_lt HZ3.out));have HB4:=Hd (HB3.out.trans (hb4.mono HB3.out.size));have HB34:=Hd hb4;have u0:=kpB hb4 hX3 x0;have u1:=kpB hb4 hX3 x1;have u2:=kpB hb4 hX3 x2;have u3:=kpB hb4 hX3 x3;have u4:=kpB hb4 hX3 x4;have u5:=kpB hb4 hX3 x5;have u6:=kpB hb4 hX3 x6;have u7:=kpB hb4 hX3 x7;have u8:=kpB hb4 hX3 x8;have u9:=kpB hb4 hX3 x9;have u10:=kpB hb4 hX3 x10;have u11:=kpB hb4 hX3 x11;clear hb4;have z0:=bq HZ4.out 0 (v:=.bool false);have z1:=bq HZ4.out 1 (v:=.bool false);have z2:=bq HZ4.out 2 (v:=.slice none 0 0);have z3:=bq HZ4.out 3 (v:=.slice none 0 0);have z4:=bq HZ4.out 4 (v:=.bool false);have z5:=bq HZ4.out 5 (v:=.slice none 0 0);have z6:=bq HZ4.out 6 (v:=.slice none 0 0);have z7:=bq HZ4.out 7 (v:=.int .i64 0);have z8:=bq HZ4.out 8 (v:=.int .i64 0);have z9:=bq HZ4.out 9 (v:=.slice none 0 0);(have zf:=fun i=>blk_free HZ4.out i);have HZF:=Hd (lay_blk HZ4.out (.bool q.ask) (.bool q.dist) (.slice S.va q.V.length S.vc) (.slice S.ga q.G.length S.gc) (.bool q.gr) (.slice S.ba q.B.length S.bc) (.slice S.oa q.O.length S.oc) (.int .i64 q.lim) (.int .i64 q.off) (.slice S.ca q.C.length S.cc));have HBF:=Hd (lay_below (Z:=w.heap.size) HB4.out (Nat.le_refl _) (.bool q.ask) (.bool q.dist) (.slice S.va q.V.length S.vc) (.slice S.ga q.G.length S.gc) (.bool q.gr) (.slice S.ba q.B.length S.bc) (.slice S.oa q.O.length S.oc) (.int .i64 q.lim) (.int .i64 q.off) (.slice S.ca q.C.length S.cc));(have HQA:=Hd (HH3.out (lay10 w4 w.heap.size (.bool q.ask) (.bool q.dist) (.slice S.va q.V.length S.vc) (.slice S.ga q.G.length S.gc) (.bool q.gr) (.slice S.ba q.B.length S.bc) (.slice S.oa q.O.length S.oc) (.int .i64 q.lim) (.int .i64 q.off) (.slice S.ca q.C.length S.cc)) ⟨Nat.le_trans HB34.out.size (lay_below (B:=0) (Z:=w.heap.size) (Below.refl 0 w4) (Nat.zero_le _) (.bool q.ask) (.bool q.dist) (.slice S.va q.V.length S.vc) (.slice S.ga q.G.length S.gc) (.bool q.gr) (.slice S.ba q.B.length S.bc) (.slice S.oa q.O.length S.oc) (.int .i64 q.lim) (.int .i64 q.off) (.slice S.ca q.C.length S.cc)).size,fun k hk hn=>(lay_heap (fun e=>hn (.inr e)) (.bool q.ask) (.bool q.dist) (.slice S.va q.V.length S.vc) (.slice S.ga q.G.length S.gc) (.bool q.gr) (.slice S.ba q.B.length S.bc) (.slice S.oa q.O.length S.oc) (.int .i64 q.lim) (.int .i64 q.off) (.slice S.ca q.C.length S.cc)).trans (HB34.out.block k hk)⟩));go_wp2;obtain⟨W9,hW9⟩:∃W9,W9=lay10 w4 w.heap.size (.bool q.ask) (.bool q.dist) (.slice S.va q.V.length S.vc) (.slice S.ga q.G.length S.gc) (.bool q.gr) (.slice S.ba q.B.length S.bc) (.slice S.oa q.O.length S.oc) (.int .i64 q.lim) (.int .i64 q.off) (.slice S.ca q.C.length S.cc):=⟨_,rfl⟩;(unfold lay10 at hW9);rw [←hW9];(rw [show lay10 w4 w.heap.size (.bool q.ask) (.bool q.dist) (.slice S.va q.V.length S.vc) (.slice S.ga q.G.length S.gc) (.bool q.gr) (.slice S.ba q.B.length S.bc) (.slice S.oa q.O.length S.oc) (.int .i64 q.lim) (.int .i64 q.off) (.slice S.ca q.C.length S.cc)=W9 from hW9.symm] at HZF HBF HQA);clear hW9;have y0:=bq HZF.out 0 (v:=.bool q.ask);have y1:=bq HZF.out 1 (v:=.bool q.dist);have y2:=bq HZF.out 2 (v:=.slice S.va q.V.length S.vc);have y3:=bq HZF.out 3 (v:=.slice S.ga q.G.length S.gc);have y4:=bq HZF.out 4 (v:=.bool q.gr);have y5:=bq HZF.out 5 (v:=.slice S.ba q.B.length S.bc);have y6:=bq HZF.out 6 (v:=.slice S.oa q.O.length S.oc);have y7:=bq HZF.out 7 (v:=.int .i64 q.lim);have y8:=bq HZF.out 8 (v:=.int .i64 q.off);have y9:=bq HZF.out 9 (v:=.slice S.ca q.C.length S.cc);(refine bodyPost_ret (v:=.tuple #[.agg #[.bool q.ask,.bool q.dist,.slice S.va q.V.length S.vc,.slice S.ga q.G.length S.gc,.bool q.gr,.slice S.ba q.B.length S.bc,.slice S.oa q.O.length S.oc,.int .i64 q.lim,.int .i64 q.off,.slice S.ca q.C.length S.cc],.int .i64 0]) (by simp [results,Tryz.results5,go_sem,y0,y1,y2,y3,y4,y5,y6,y7,y8,y9]) rfl ?_);rw [HP4.out];exact⟨S,rfl,HQA.out,HBF.out⟩
      ·(have HP4:=Hd (show R=(noQ,checkQ q) from by rw [HP3.out,if_neg hbn,if_pos hz]));generalize checkQ q=z at HCK HP4 hz;have gz:(z !=0)=true:=bne_iff_ne.2 hz;clear HP3 hz;(go_wp2_with fail);rw [←hW2];refine HRD.out.mono ?_;rintro e w3 ⟨rfl,S,hblk,_,hb3,hheld,_⟩;have HBK3:=Hd hblk;have HH3:=Hd hheld;have HZ3:=Hd (blk_on (blk_on HZ1.out hbx hzl) hb3 hzl);have HB3:=Hd (HB1.out.trans ((hbx.trans hb3).mono HB1.out.size));clear hb3 hbx hblk hheld;have x0:=bq HBK3.out 0 (v:=(Value.slice (some ⟨g,0,none⟩) N cap));have x1:=bq HBK3.out 1 (v:=.int .i64 b);have x2:=bq HBK3.out 2 (v:=.bool q.ask);have x3:=bq HBK3.out 3 (v:=.bool q.dist);have x4:=bq HBK3.out 4 (v:=.slice S.va q.V.length S.vc);have x5:=bq HBK3.out 5 (v:=.slice S.ga q.G.length S.gc);have x6:=bq HBK3.out 6 (v:=.bool q.gr);have x7:=bq HBK3.out 7 (v:=.slice S.ba q.B.length S.bc);have x8:=bq HBK3.out 8 (v:=.slice S.oa q.O.length S.oc);have x9:=bq HBK3.out 9 (v:=.int .i64 q.lim);have x10:=bq HBK3.out 10 (v:=.int .i64 q.off);have x11:=bq HBK3.out 11 (v:=.slice S.ca q.C.length S.cc);(have xf:=fun i=>blk_free HBK3.out i);have hX3:=blk_lt HBK3.out;(have hi:¬(b:Int)<(N:Int):=by omega);(go_wp2_with fail);refine (HCK.out S w3 HH3.out.now).mono ?_;rintro e w4 ⟨rfl,hb4⟩;have HZ4:=Hd (blk_on HZ3.out hb4 (blk_lt HZ3.out));have HB4:=Hd (HB3.out.trans (hb4.mono HB3.out.size));have HB34:=Hd hb4;have u0:=kpB hb4 hX3 x0;have u1:=kpB hb4 hX3 x1;have u2:=kpB hb4 hX3 x2;have u3:=kpB hb4 hX3 x3;have u4:=kpB hb4 hX3 x4;have u5:=kpB hb4 hX3 x5;have u6:=kpB hb4 hX3 x6;have u7:=kpB hb4 hX3 x7;have u8:=kpB hb4 hX3 x8;have u9:=kpB hb4 hX3 x9;have u10:=kpB hb4 hX3 x10;have u11:=kpB hb4 hX3 x11;clear hb4;have z0:=bq HZ4.out 0 (v:=.bool false);have z1:=bq HZ4.out 1 (v:=.bool false);have z2:=bq HZ4.out 2 (v:=.slice none 0 0);have z3:=bq HZ4.out 3 (v:=.slice none 0 0);have z4:=bq HZ4.out 4 (v:=.bool false);have z5:=bq HZ4.out 5 (v:=.slice none 0 0);have z6:=bq HZ4.out 6 (v:=.slice none 0 0);have z7:=bq HZ4.out 7 (v:=.int .i64 0);have z8:=bq HZ4.out 8 (v:=.int .i64 0);have z9:=bq HZ4.out 9 (v:=.slice none 0 0);(have zf:=fun i=>blk_free HZ4.out i);have HZF:=Hd (lay_blk HZ4.out (.bool false) (.bool false) (.slice none 0 0) (.slice none 0 0) (.bool false) (.slice none 0 0) (.slice none 0 0) (.int .i64 0) (.int .i64 0) (.slice none 0 0));have HBF:=Hd (lay_below (Z:=w.heap.size) HB4.out (Nat.le_refl _) (.bool false) (.bool false) (.slice none 0 0) (.slice none 0 0) (.bool false) (.slice none 0 0) (.slice none 0 0) (.int .i64 0) (.int .i64 0) (.slice none 0 0));go_wp2;obtain⟨W9,hW9⟩:∃W9,W9=lay10 w4 w.heap.size (.bool false) (.bool false) (.slice none 0 0) (.slice none 0 0) (.bool false) (.slice none 0 0) (.slice none 0 0) (.int .i64 0) (.int .i64 0) (.slice none 0 0):=⟨_,rfl⟩;(unfold lay10 at hW9);rw [←hW9];(rw [show lay10 w4 w.heap.size (.bool false) (.bool false) (.slice none 0 0) (.slice none 0 0) (.bool false) (.slice none 0 0) (.slice none 0 0) (.int .i64 0) (.int .i64 0) (.slice none 0 0)=W9 from hW9.symm] at HZF HBF);clear hW9;have y0:=bq HZF.out 0 (v:=.bool false);have y1:=bq HZF.out 1 (v:=.bool false);have y2:=bq HZF.out 2 (v:=.slice none 0 0);have y3:=bq HZF.out 3 (v:=.slice none 0 0);have y4:=bq HZF.out 4 (v:=.bool false);have y5:=bq HZF.out 5 (v:=.slice none 0 0);have y6:=bq HZF.out 6 (v:=.slice none 0 0);have y7:=bq HZF.out 7 (v:=.int .i64 0);have y8:=bq HZF.out 8 (v:=.int .i64 0);have y9:=bq HZF.out 9 (v:=.slice none 0 0);(refine bodyPost_ret (v:=.tuple #[.agg #[.bool false,.bool false,.slice none 0 0,.slice none 0 0,.bool false,.slice none 0 0,.slice none 0 0,.int .i64 0,.int .i64 0,.slice none 0 0],.int .i64 z]) (by simp [results,Tryz.results5,go_sem,y0,y1,y2,y3,y4,y5,y6,y7,y8,y9]) rfl ?_);rw [HP4.out];exact⟨noS,rfl,noq_in _,HBF.out⟩
 ·have HP2:=Hd (HPQ.out.trans (if_pos hE));have gE:(E !=0)=true:=bne_iff_ne.2 hE;clear HPQ hE;(go_enter Tryz.func5,Tryz.ntmps5);(go_wp2_with fail);refine (HLX.out _).mono ?_;rintro e w1 ⟨v,rfl,hown,hb1⟩;have HOWN:=Hd hown;(have HB1:=Hd ((box_below w (.cells #[.bool false,.bool false,.slice none 0 0,.slice none 0 0,.bool false,.slice none 0 0,.slice none 0 0,.int .i64 0,.int .i64 0,.slice none 0 0] 27)).trans (hb1.mono (by simp))));(have HZ1:=Hd (blk_on (blk_new w 27 #[.bool false,.bool false,.slice none 0 0,.slice none 0 0,.bool false,.slice none 0 0,.slice none 0 0,.int .i64 0,.int .i64 0,.slice none 0 0]) hb1 (by simp)));clear hb1 hown;have z0:=bq HZ1.out 0 (v:=.bool false);have z1:=bq HZ1.out 1 (v:=.bool false);have z2:=bq HZ1.out 2 (v:=.slice none 0 0);have z3:=bq HZ1.out 3 (v:=.slice none 0 0);have z4:=bq HZ1.out 4 (v:=.bool false);have z5:=bq HZ1.out 5 (v:=.slice none 0 0);have z6:=bq HZ1.out 6 (v:=.slice none 0 0);have z7:=bq HZ1.out 7 (v:=.int .i64 0);have z8:=bq HZ1.out 8 (v:=.int .i64 0);have z9:=bq HZ1.out 9 (v:=.slice none 0 0);(have zf:=fun i=>blk_free HZ1.out i);have HZF:=Hd (lay_blk HZ1.out (.bool false) (.bool false) (.slice none 0 0) (.slice none 0 0) (.bool false) (.slice none 0 0) (.slice none 0 0) (.int .i64 0) (.int .i64 0) (.slice none 0 0));have HBF:=Hd (lay_below (Z:=w.heap.size) HB1.out (Nat.le_refl _) (.bool false) (.bool false) (.slice none 0 0) (.slice none 0 0) (.bool false) (.slice none 0 0) (.slice none 0 0) (.int .i64 0) (.int .i64 0) (.slice none 0 0));go_wp2;obtain⟨W9,hW9⟩:∃W9,W9=lay10 w1 w.heap.size (.bool false) (.bool false) (.slice none 0 0) (.slice none 0 0) (.bool false) (.slice none 0 0) (.slice none 0 0) (.int .i64 0) (.int .i64 0) (.slice none 0 0):=⟨_,rfl⟩;(unfold lay10 at hW9);rw [←hW9];(rw [show lay10 w1 w.heap.size (.bool false) (.bool false) (.slice none 0 0) (.slice none 0 0) (.bool false) (.slice none 0 0) (.slice none 0 0) (.int .i64 0) (.int .i64 0) (.slice none 0 0)=W9 from hW9.symm] at HZF HBF);clear hW9;have y0:=bq HZF.out 0 (v:=.bool false);have y1:=bq HZF.out 1 (v:=.bool false);have y2:=bq HZF.out 2 (v:=.slice none 0 0);have y3:=bq HZF.out 3 (v:=.slice none 0 0);have y4:=bq HZF.out 4 (v:=.bool false);have y5:=bq HZF.out 5 (v:=.slice none 0 0);have y6:=bq HZF.out 6 (v:=.slice none 0 0);have y7:=bq HZF.out 7 (v:=.int .i64 0);have y8:=bq HZF.out 8 (v:=.int .i64 0);have y9:=bq HZF.out 9 (v:=.slice none 0 0);(refine bodyPost_ret (v:=.tuple #[.agg #[.bool false,.bool false,.slice none 0 0,.slice none 0 0,.bool false,.slice none 0 0,.slice none 0 0,.int .i64 0,.int .i64 0,.slice none 0 0],.int .i64 E]) (by simp [results,Tryz.results5,go_sem,y0,y1,y2,y3,y4,y5,y6,y7,y8,y9]) rfl ?_);rw [HP2.out];exact⟨noS,rfl,noq_in _,HBF.out⟩
end
end Go.Proofs.YtjpfoophipcglaaGreatDoor
