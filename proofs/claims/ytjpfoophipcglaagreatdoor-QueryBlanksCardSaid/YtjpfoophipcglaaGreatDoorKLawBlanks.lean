/- What is read of words hangs on no place of theirs. -/
import Derived.Test.YtjpfoophipcglaaGreatDoorKQueryAwake
import Derived.Test.YtjpfoophipcglaaGreatDoorKQSames
import Derived.Test.YtjpfoophipcglaaGreatDoorKRefLexs
namespace Go.Proofs.YtjpfoophipcglaaGreatDoor
set_option maxRecDepth 100000
set_option maxHeartbeats 8000000
def er (t:TokL):TokL:=t.at 0
theorem er_k (t:TokL):(er t).k=t.k:=rfl
theorem er_x (t:TokL):(er t).x=t.x:=rfl
theorem er_t (t:TokL):(er t).t=t.t:=rfl
theorem er_var (t:TokL):isVar (er t)=isVar t:=rfl
theorem er_trm (t:TokL):isTrm (er t)=isTrm t:=rfl
theorem er_term (t:TokL):termOfM (er t)=termOfM t:=rfl
theorem er_dig (t:TokL):isDig (er t)=isDig t:=rfl
theorem er_agg (t:TokL):aggKind (er t)=aggKind t:=rfl
theorem at_er (L:List TokL) (a:Nat):(L.map er)[a]?=(L[a]?).map er:=List.getElem?_map
theorem len_er (L:List TokL):(L.map er).length=L.length:=List.length_map ..
theorem tokAt_er (L:List TokL) (a:Nat):tokAt (L.map er) a=er (tokAt L a):=by
  unfold tokAt
  rw [at_er]
  cases L[a]?<;>rfl
theorem nextA_er (L:List TokL) (a:Nat):nextA (L.map er) a=nextA L a:=by unfold nextA;rw [len_er]
theorem isW_er (L:List TokL) (a:Nat) (k:Int) (s:List UInt8):isW (L.map er) a k s=isW L a k s:=by
  unfold isW
  rw [tokAt_er,len_er];rfl
theorem isSign_er (L:List TokL) (a:Nat) (s:List UInt8):isSign (L.map er) a s=isSign L a s:=by
  unfold isSign
  rw [at_er]
  cases L[a]?<;>rfl
theorem signK_er (L:List TokL) (a f t:Nat):signK (L.map er) a f t=signK L a f t:=by
  unfold signK
  rw [at_er]
  cases L[a]?<;>rfl
theorem wordM_er (rec:Goal→StL→FResL) (L:List TokL) (s:List UInt8) (q:StL):wordM rec (L.map er) s q=wordM rec L s q:=by
  unfold wordM
  simp only [isSign_er,at_er]
  cases L[q.1+1]?<;>rfl
theorem simpleM_er (rec:Goal→StL→FResL) (L:List TokL) (q:StL):simpleM rec (L.map er) q=simpleM rec L q:=by
  unfold simpleM
  simp only [isSign_er,at_er,wordM_er]
  cases L[q.1]?<;>rfl
theorem argsEnd_er (L:List TokL) (kind n:Nat) (q:StL):argsEnd (L.map er) kind n q=argsEnd L kind n q:=by
  unfold argsEnd
  simp only [isSign_er]
theorem runM_er (L:List TokL):∀f,runM (L.map er) f=runM L f
  | 0=>rfl
  | f+1=>by
    have ih:=runM_er L f
    funext g q
    cases g<;>simp only [runM,ih,signK_er,simpleM_er,isSign_er,argsEnd_er]
theorem parseM_er (L:List TokL) (a:Nat):parseM (L.map er) a=parseM L a:=by
  unfold parseM
  rw [runM_er,len_er]
theorem formM_er (L:List TokL) (a:Nat):formM (L.map er) a=formM L a:=by unfold formM;rw [parseM_er]
theorem filterM_er (L:List TokL) (a:Nat):filterM (L.map er) a=filterM L a:=by unfold filterM;simp only [formM_er,isW_er]
theorem bindM_er (L:List TokL) (a:Nat) (C:List OpL):bindM (L.map er) a C=bindM L a C:=by unfold bindM;simp only [formM_er,isW_er,tokAt_er,nextA_er,er_var,er_x]
theorem tripAt_er (L:List TokL) (a:Nat):tripAt (L.map er) a=tripAt L a:=by unfold tripAt;simp only [tokAt_er,er_term]
theorem trip3_er (L:List TokL) (a:Nat):trip3 (L.map er) a=trip3 L a:=by unfold trip3;simp only [tokAt_er,er_trm]
theorem tripOk_er (L:List TokL) (a:Nat):tripOk (L.map er) a=tripOk L a:=by unfold tripOk;simp only [trip3_er,tripAt_er,isW_er]
theorem tripEnd_er (L:List TokL) (a:Nat):tripEnd (L.map er) a=tripEnd L a:=by unfold tripEnd;simp only [tokAt_er,er_trm,isW_er]
theorem tripsM_er (L:List TokL):∀f a T,tripsM (L.map er) f a T=tripsM L f a T
  | 0,_,_=>rfl
  | f+1,a,T=>by simp only [tripsM,tripOk_er,tripAt_er,tripEnd_er,tokAt_er,er_trm,tripsM_er L f]
theorem basicM_er (L:List TokL) (a:Nat) (C:List OpL):basicM (L.map er) a C=basicM L a C:=by unfold basicM;simp only [tripsM_er,len_er]
theorem namesM_er (L:List TokL):∀f a V,namesM (L.map er) f a V=namesM L f a V
  | 0,_,_=>rfl
  | f+1,a,V=>by simp only [namesM,isW_er,tokAt_er,er_var,er_x,nextA_er,namesM_er L f]
theorem valOk_er (L:List TokL) (a:Nat):valOk (L.map er) a=valOk L a:=by unfold valOk;simp only [isW_er,tokAt_er,er_trm,er_dig]
theorem valAt_er (L:List TokL) (a:Nat):valAt (L.map er) a=valAt L a:=by unfold valAt;simp only [isW_er,tokAt_er,er_trm,er_term,er_x]
theorem cellsM_er (L:List TokL):∀f a R,cellsM (L.map er) f a R=cellsM L f a R
  | 0,_,_=>rfl
  | f+1,a,R=>by simp only [cellsM,isW_er,valOk_er,valAt_er,nextA_er,cellsM_er L f]
theorem rowM_er (L:List TokL) (a:Nat):rowM (L.map er) a=rowM L a:=by unfold rowM;simp only [isW_er,cellsM_er,len_er]
theorem rowsM_er (L:List TokL):∀f a R,rowsM (L.map er) f a R=rowsM L f a R
  | 0,_,_=>rfl
  | f+1,a,R=>by simp only [rowsM,isW_er,rowM_er,rowsM_er L f]
theorem valuesM_er (L:List TokL) (a:Nat) (C:List OpL):valuesM (L.map er) a C=valuesM L a C:=by unfold valuesM;simp only [isW_er,namesM_er,rowsM_er,len_er]
theorem serviceQ_er (rec:GoalQ→Nat→List OpL→RG) (L:List TokL) (a:Nat) (C:List OpL):serviceQ rec (L.map er) a C=serviceQ rec L a C:=by unfold serviceQ;simp only [isW_er,tokAt_er,er_k,er_t,nextA_er]
theorem pieceQ_er (rec:GoalQ→Nat→List OpL→RG) (L:List TokL) (a:Nat) (C:List OpL):pieceQ rec (L.map er) a C=pieceQ rec L a C:=by unfold pieceQ;simp only [isW_er,valuesM_er,serviceQ_er,basicM_er]
theorem elemQ_er (rec:GoalQ→Nat→List OpL→RG) (L:List TokL) (there:Bool) (a:Nat) (C:List OpL):elemQ rec (L.map er) there a C=elemQ rec L there a C:=by unfold elemQ;simp only [isW_er,bindM_er,pieceQ_er]
theorem runQ_er (L:List TokL):∀f,runQ (L.map er) f=runQ L f
  | 0=>by funext g a C;cases g<;>simp only [runQ,len_er]
  | f+1=>by
    have ih:=runQ_er L f
    funext g a C
    cases g<;>simp only [runQ,ih,isW_er,filterM_er,elemQ_er]
theorem overM_er (L:List TokL) (k:Int) (a:Nat):overM (L.map er) k a=overM L k a:=by unfold overM;simp only [isW_er,tokAt_er,er_var,er_x]
theorem aggM_er (L:List TokL) (a:Nat):aggM (L.map er) a=aggM L a:=by unfold aggM;simp only [overM_er,isW_er,tokAt_er,er_var,er_x,er_agg]
theorem colM_er (L:List TokL) (s:CS):colM (L.map er) s=colM L s:=by unfold colM;simp only [aggM_er,isW_er,tokAt_er,er_var,er_x]
theorem colsM_er (L:List TokL):∀f s,colsM (L.map er) f s=colsM L f s
  | 0,_=>rfl
  | f+1,s=>by simp only [colsM,colM_er,isW_er,colsM_er L f]
theorem varsM_er (L:List TokL):∀f a B,varsM (L.map er) f a B=varsM L f a B
  | 0,_,_=>rfl
  | f+1,a,B=>by simp only [varsM,tokAt_er,er_var,er_x,er_k,varsM_er L f]
theorem groupM_er (L:List TokL) (a:Nat):groupM (L.map er) a=groupM L a:=by unfold groupM;simp only [isW_er,varsM_er,len_er]
theorem isKeyW_er (L:List TokL) (a:Nat):isKeyW (L.map er) a=isKeyW L a:=by unfold isKeyW;simp only [isW_er,tokAt_er,er_k]
theorem keyM_er (L:List TokL) (a:Nat):keyM (L.map er) a=keyM L a:=by unfold keyM;simp only [isW_er,tokAt_er,er_var,er_x]
theorem keysM_er (L:List TokL):∀f a O,keysM (L.map er) f a O=keysM L f a O
  | 0,_,_=>rfl
  | f+1,a,O=>by simp only [keysM,keyM_er,isKeyW_er,keysM_er L f]
theorem orderM_er (L:List TokL) (a:Nat):orderM (L.map er) a=orderM L a:=by unfold orderM;simp only [isW_er,keysM_er,len_er]
theorem countM_er (L:List TokL) (a:Nat) (s:List UInt8) (d:Int):countM (L.map er) a s d=countM L a s d:=by unfold countM;simp only [isW_er,tokAt_er,er_dig,er_x]
theorem headM_er (L:List TokL) (a:Nat):headM (L.map er) a=headM L a:=by unfold headM;simp only [isW_er,colsM_er,len_er]
theorem groupAt_er (L:List TokL) (a:Nat):groupAt (L.map er) a=groupAt L a:=by unfold groupAt fuelQ;rw [runQ_er,len_er]
theorem tableM_er (L:List TokL) (a:Nat):tableM (L.map er) a=tableM L a:=by unfold tableM;simp only [headM_er,groupAt_er,isW_er]
theorem tailM_er (L:List TokL) (d:Bool) (t:TS):tailM (L.map er) d t=tailM L d t:=by unfold tailM;simp only [groupM_er,orderM_er,countM_er]
theorem selectM_er (L:List TokL) (a:Nat):selectM (L.map er) a=selectM L a:=by unfold selectM;simp only [tableM_er,tailM_er,isW_er]
theorem readM_er (L:List TokL):readM (L.map er)=readM L:=by unfold readM;simp only [isW_er,groupAt_er,selectM_er]
theorem parse_same {l m:List UInt8} (hl:(lexS l).2.2=0) (hm:(lexS m).2.2=0) (h:(lexS m).1.map er=(lexS l).1.map er):parseQ m=parseQ l:=by
  have hr:readM (lexS m).1=readM (lexS l).1:=by rw [←readM_er,h,readM_er]
  have hn:(lexS m).1.length=(lexS l).1.length:=by rw [←len_er,h,len_er]
  unfold parseQ
  rw [hl,hm,hr,hn]
section
open Go.RowKit
structure BytA (w:World) (a:Option Addr) (n c:Nat) (L:List UInt8):Prop where
  len:L.length=n
  cap:n≤c
  most:c≤maxLen
  cells:0<n→∃g o,a=some ⟨g,o,none⟩∧g<w.heap.size∧∀j (h:j<L.length),w.cell? ⟨g,o+j,none⟩=some (.int .u8 (L[j].toNat:Int))
theorem BytA.on {w w':World} {a:Option Addr} {n c:Nat} {L:List UInt8} (h:BytA w a n c L) (hb:Below w.heap.size w w'):BytA w' a n c L:=by
  refine⟨h.len,h.cap,h.most,fun h0=>?_⟩
  obtain⟨g,o,ha,hg,hc⟩:=h.cells h0
  exact⟨g,o,ha,Nat.lt_of_lt_of_le hg hb.size,fun j hj=>kpB hb hg (hc j hj)⟩
def blankB (m:Nat):List UInt8:=if m=0 then [] else if m=1 then [32] else if m=2 then [9] else if m=3 then [10] else [32,32]
def blankAt (L:List UInt8) (i:Nat):List UInt8:=match L[i]? with|none=>[] | some b=>blankB (b.toNat % 5)
theorem blankB_spaces (m:Nat):Spaces (blankB m):=by
  unfold blankB
  repeat' split
  all_goals (intro c hc;simp at hc)
  all_goals (subst hc;decide)
theorem blankAt_spaces (L:List UInt8) (i:Nat):Spaces (blankAt L i):=by
  unfold blankAt
  split
  · intro c hc;cases hc
  · exact blankB_spaces _
theorem spread_next {L:List TokL} {b:Nat→List UInt8} {k:Nat} (hk:k<L.length) {T:List UInt8} (hT:T=spread (L.take k) b 0):T++(tokT L[k]++32::b k)=spread (L.take (k+1)) b 0:=by
  rw [List.take_succ_eq_append_getElem hk,spread_snoc,hT,List.length_take,Nat.zero_add,Nat.min_eq_left (Nat.le_of_lt hk)]
theorem toks5 {l:List UInt8} {t:TokL} (h:t∈(lexS l).1):TokS5 t:=by
  obtain⟨h1,h2,h3,h4⟩:=(lex_short l).1 t h
  exact⟨by omega,by omega,by omega,by omega⟩
theorem blanks_same {l T:List UInt8} {b:Nat→List UInt8} (hb:∀i,Spaces (b i)) (h0:(lexS l).2.2=0) (hT:T=spread (lexS l).1 b 0) (hl:T.length≤4096):parseQ T=parseQ l:=by
  subst hT
  obtain⟨h1,h2⟩:=lex_back (lex_good l) hb hl
  exact parse_same h0 h1 h2
theorem glue (T Y b:List UInt8):bs T++bs Y++(bs [32]++bs b)=bs (T++(Y++32::b)):=by rw [bs_app,bs_app,bs_app];simp
theorem glue2 (T Y b:List UInt8):bs T++bs Y++bs [32]++bs b=bs (T++(Y++32::b)):=by rw [bs_app,bs_app,bs_app];simp
theorem glue0 (T Y:List UInt8):bs T++bs Y++bs [32]=bs (T++(Y++[32])):=by rw [bs_app,bs_app];simp
theorem glue1 (T Y:List UInt8):bs T++(bs Y++bs [32])=bs (T++(Y++[32])):=by rw [bs_app,bs_app]
theorem tokT_size {t:TokL} (hs:TokS5 t):(tokT t).length≤1000000:=by
  obtain⟨s1,s2,s3,s4⟩:=hs
  have h1:=escL_len t.t.x
  unfold tokT termT tagT
  repeat' split
  all_goals (first|(simp;omega)|simp)
theorem queryBlanks_calls (s:ByteArray) (ba:Option Addr) (bn bc:Nat) (BL:List UInt8) (w:World) (hg:Good w.heap.size w) (he:ErrG w.heap.size w) (hB:BytA w ba bn bc BL):Calls Tryz.prog 4 #[.string s,.slice ba bn bc] w fun e w'=>e=.returned (.bool true)∧Below w.heap.size w w':=by
 have HLX:=Hd (rLex_calls s w);(have HPS:=Hd (fun W (hb:Below w.heap.size w W)=>parse_calls s W (hg.nxt hb) (ErrG.next he hb)));(have HPT:=Hd (fun T W (hb:Below w.heap.size w W)=>parse_calls (bs T) W (hg.nxt hb) (ErrG.next he hb)));(simp only [bs_data] at HPT);(have HAW:=Hd (fun W (hb:Below w.heap.size w W)=>awake8_calls W (hg.nxt hb) (ErrG.next he hb)));(have HG:=Hd (fun t (h:t∈(lexS s.data.toList).1)=>lex_good s.data.toList t h));(have HS5:=Hd (fun t (h:t∈(lexS s.data.toList).1)=>toks5 h));have HLN:=Hd (lex_short s.data.toList).2;(have HBS:=Hd (fun T (h0:(lexS s.data.toList).2.2=0) (hT:T=spread (lexS s.data.toList).1 (blankAt BL) 0) (hl:T.length≤4096)=>blanks_same (blankAt_spaces BL) h0 hT hl));have HB:=Hd hB;have HBL:=Hd hB.len;have b1:=hB.cap;have b2:=hB.most;(unfold maxLen at b2);clear hg he hB;generalize lexS s.data.toList=X at HLX HG HS5 HLN HBS;obtain⟨L,N0,E⟩:=X;dsimp only at HG HS5 HLN HBS;by_cases hE:E=0
 case neg =>
  have gE:(E !=0)=true:=bne_iff_ne.2 hE;(go_enter Tryz.func4,Tryz.ntmps4);(go_wp2_with fail);refine HLX.out.mono ?_;rintro e w1 ⟨v,rfl,_,hb1⟩;have HB1:=Hd hb1;clear hb1;(go_wp2_with fail);refine (HAW.out _ HB1.out).mono ?_;rintro e w9 ⟨rfl,hb9⟩;have HB9:=Hd (HB1.out.trans (hb9.mono HB1.out.size));clear hb9;go_wp2;go_ret;exact⟨rfl,HB9.out⟩
 subst hE;(have HBT:=Hd (fun T hT hl=>HBS.out T rfl hT hl));clear HBS;have hLn:=HLN.out;(go_enter Tryz.func4,Tryz.ntmps4);(go_wp2_with fail);refine HLX.out.mono ?_;rintro e w1 ⟨v,rfl,hown,hb1⟩;have HB1:=Hd hb1;obtain⟨n,hn⟩:∃n,L.length=n:=⟨_,rfl⟩;obtain⟨va,vc,hv,HC⟩:∃va vc,v=.slice va n vc∧Hid (n≤vc∧vc≤maxLen∧(0<n→∃g,va=some ⟨g,0,none⟩∧g<w1.heap.size∧∀j (h:j<L.length),Cells7 w1 g j L[j])):=by
  have htr:TReads w1 v L.length (tokCells L):=treads_of hown;rcases htr with ⟨hv,h0⟩|⟨g,cap,hv,hgw,hcn,hcm,hc⟩
  ·exact⟨none,0,by rw [hv,←hn,h0],Hd ⟨by omega,Nat.zero_le _,fun h=>by omega⟩⟩
  ·exact⟨_,cap,by rw [hv,hn],Hd ⟨by omega,hcm,fun _=>⟨g,rfl,hgw,fun j hj=>toks_cell hc j hj⟩⟩⟩
 subst hv;have HN:=Hd hn;rw [hn] at hLn;clear hown hb1 hn;obtain⟨vc1,vc2,_⟩:=HC.out;(unfold maxLen at vc2);go_wp2;go_loopg [8,9] n (fun gh t i wr=>∃(k:Nat) (T:List UInt8),i=.int .i64 k∧t=.string (bs T)∧k+gh=n∧(bs T).size≤2000000∧Hid (T=spread (L.take k) (blankAt BL) 0)∧Hid (Below w1.heap.size w1 wr))
 case atStart=>exact⟨0,[],rfl,by rw [bs_nil],by omega,Nat.zero_le _,Hd rfl,Hd (Below.refl _ _)⟩
 case round =>
  obtain⟨W1,rfl⟩:∃W1,W1=wr:=⟨_,rfl⟩;obtain⟨k,T,rfl,rfl,hkg,hTs,HT,HBW⟩:=hrel;have HW:=Hd (HB1.out.trans (HBW.out.mono HB1.out.size));by_cases hlong:4096<(bs T).size
  ·(have g1:¬((bs T).size:Int)≤4096:=by omega);(have g2:(4096:Int)<((bs T).size:Int):=by omega);(have hd:(k:Int)<(n:Int)∨¬(k:Int)<(n:Int):=by omega);rcases hd with hd|hd
   ·(go_wp2_with fail);refine (HAW.out _ HW.out).mono ?_;rintro e w9 ⟨rfl,hb9⟩;have HB9:=Hd (HW.out.trans (hb9.mono HW.out.size));clear hb9;go_wp2;go_ret;exact⟨rfl,HB9.out⟩
   ·(go_wp2_with fail);refine (HAW.out _ HW.out).mono ?_;rintro e w9 ⟨rfl,hb9⟩;have HB9:=Hd (HW.out.trans (hb9.mono HW.out.size));clear hb9;go_wp2;go_ret;exact⟨rfl,HB9.out⟩
  (have g1:((bs T).size:Int)≤4096:=by omega);(have g2:¬(4096:Int)<((bs T).size:Int):=by omega);by_cases hk:k<n
  ·(obtain⟨gg,rfl⟩:∃gg,gk=gg+1:=⟨gk-1,by omega⟩);(have hkL:k<L.length:=by rw [HN.out];exact hk);obtain⟨_,_,hcc⟩:=HC.out;(obtain⟨g,hga,hgw,hcells⟩:=hcc (by omega));subst hga;obtain⟨c0,c1,c2,c3,c4,c5,c6⟩:=hcells k hkL;(have HJ:=Hd (fun c=>rJoin1_calls L[k] (HG.out _ (List.getElem_mem hkL)) (HS5.out _ (List.getElem_mem hkL)) g (k*7) c W1 ⟨kpB HBW.out hgw c0,kpB HBW.out hgw c1,kpB HBW.out hgw c2,kpB HBW.out hgw c3,kpB HBW.out hgw c4,kpB HBW.out hgw c5,kpB HBW.out hgw c6⟩));(have hts:(bs (tokT L[k])).size≤1000000:=by rw [bs_size];exact tokT_size (HS5.out _ (List.getElem_mem hkL)));have HNX:=Hd (spread_next (b:=blankAt BL) hkL HT.out);clear c0 c1 c2 c3 c4 c5 c6 hcells hcc;generalize tokT L[k]=Y at HJ HNX hts;(have k0:(0:Int)≤(k:Int):=by omega);(have k1:(k:Int)<(n:Int):=by omega);(have k2:IntKind.i64.wrap ((k:Int)+1)=(k:Int)+1:=IntWalk.i64_in _ (by omega));(go_wp2_with fail);refine (HJ.out _).mono ?_;rintro e w3 ⟨rfl,hb3⟩;have HB3:=Hd (HBW.out.trans (hb3.mono HBW.out.size));have HW3:=Hd (HB1.out.trans (HB3.out.mono HB1.out.size));clear hb3;by_cases hkb:k<bn
   ·(have hkL2:k<BL.length:=by rw [HBL.out];exact hkb);(obtain⟨g',o',hba,hgw',hcells'⟩:=(HB.out.on HW3.out).cells (by omega));subst hba;have d0:=hcells' k hkL2;(have HAT:=Hd (show blankAt BL k=blankB (BL[k].toNat % 5) from by unfold blankAt;rw [List.getElem?_eq_getElem hkL2]));rw [HAT.out] at HNX;have hbb:BL[k].toNat<256:=BL[k].toNat_lt;clear hcells' HAT;generalize BL[k].toNat=z at d0 HNX hbb;obtain⟨mm,hmm⟩:∃mm,z % 5=mm:=⟨_,rfl⟩;(have hm5:mm<5:=by omega);rw [hmm] at HNX;(have kb:(k:Int)<(bn:Int):=by omega);(have q1:(z:Int) % 5=(mm:Int):=by omega);(have q2:(z:Int).tmod 5=(mm:Int):=by rw [Int.tmod_eq_emod_of_nonneg (by omega)];exact q1);(have q3:IntKind.u8.wrap (mm:Int)=(mm:Int):=IntWalk.u8_in _ (by omega));clear hmm;(have hcase:mm=0∨mm=1∨mm=2∨mm=3∨mm=4:=by omega);rcases hcase with rfl|rfl|rfl|rfl|rfl
    ·go_wp2;go_roundg gg
     case measure=>omega
     case rel=>exact⟨k+1,T++(Y++32 :: []),by go_num,by first|exact congrArg Value.string (glue T Y [])|exact congrArg Value.string (glue2 T Y [])|exact congrArg Value.string (glue0 T Y),by omega,by rw [bs_size] at *;simp;omega,Hd HNX.out,Hd (by first|exact HB3.out.alloc HB3.out.size _|exact (HB3.out.alloc HB3.out.size _).drew)⟩
    ·go_wp2;go_roundg gg
     case measure=>omega
     case rel=>exact⟨k+1,T++(Y++32 :: [32]),by go_num,by first|exact congrArg Value.string (glue T Y [32])|exact congrArg Value.string (glue2 T Y [32]),by omega,by rw [bs_size] at *;simp;omega,Hd HNX.out,Hd (by first|exact HB3.out.alloc HB3.out.size _|exact (HB3.out.alloc HB3.out.size _).drew)⟩
    ·go_wp2;go_roundg gg
     case measure=>omega
     case rel=>exact⟨k+1,T++(Y++32 :: [9]),by go_num,by first|exact congrArg Value.string (glue T Y [9])|exact congrArg Value.string (glue2 T Y [9]),by omega,by rw [bs_size] at *;simp;omega,Hd HNX.out,Hd (by first|exact HB3.out.alloc HB3.out.size _|exact (HB3.out.alloc HB3.out.size _).drew)⟩
    ·go_wp2;go_roundg gg
     case measure=>omega
     case rel=>exact⟨k+1,T++(Y++32 :: [10]),by go_num,by first|exact congrArg Value.string (glue T Y [10])|exact congrArg Value.string (glue2 T Y [10]),by omega,by rw [bs_size] at *;simp;omega,Hd HNX.out,Hd (by first|exact HB3.out.alloc HB3.out.size _|exact (HB3.out.alloc HB3.out.size _).drew)⟩
    ·go_wp2;go_roundg gg
     case measure=>omega
     case rel=>exact⟨k+1,T++(Y++32 :: [32,32]),by go_num,by first|exact congrArg Value.string (glue T Y [32,32])|exact congrArg Value.string (glue2 T Y [32,32]),by omega,by rw [bs_size] at *;simp;omega,Hd HNX.out,Hd (by first|exact HB3.out.alloc HB3.out.size _|exact (HB3.out.alloc HB3.out.size _).drew)⟩
   ·(have HAT:=Hd (show blankAt BL k=[] from by unfold blankAt;rw [List.getElem?_eq_none (by rw [HBL.out];omega)]));rw [HAT.out] at HNX;(have kb:¬(k:Int)<(bn:Int):=by omega);clear HAT;go_wp2;go_roundg gg
    case measure=>omega
    case rel=>exact⟨k+1,T++(Y++[32]),by go_num,by first|exact congrArg Value.string (glue0 T Y)|exact congrArg Value.string (glue1 T Y),by omega,by rw [bs_size] at *;simp;omega,Hd HNX.out,HB3⟩
  ·(have k1:¬(k:Int)<(n:Int):=by omega);(have HTE:=Hd (HBT.out T (by rw [HT.out,List.take_of_length_le (by rw [HN.out];omega)]) (by rw [bs_size] at hlong;omega)));(go_wp2_with fail);refine (HPS.out _ HW.out).mono ?_;rintro e w3 ⟨S,rfl,hqa,hb3⟩;obtain⟨R,hR⟩:∃R,parseQ s.data.toList=R:=⟨_,rfl⟩;rw [hR] at hqa HTE;(simp only [hR]);(have HPT2:=Hd (fun W hb=>HPT.out T W hb));rw [HTE.out] at HPT2;clear hR HTE HPT;obtain⟨q,Z⟩:=R;dsimp only at hqa;have HW3:=Hd (HW.out.trans (hb3.mono HW.out.size));have HL3:=Hd (qlay_blk w3 q S);have HLB3:=Hd (qlay_below w3 q S);obtain⟨W4,hW4⟩:∃W4,W4=qlay w3 q S:=⟨_,rfl⟩;rw [←hW4] at HL3 HLB3;have HW4:=Hd (HW3.out.trans (HLB3.out.mono HW3.out.size));have HQ4:=Hd (hqa.on HLB3.out);(simp only [qlay,qcs] at hW4);(simp only [qv]);(go_upto_region 14 with fail);rw [←hW4];clear hW4 hb3 hqa;(go_wp2_with fail);refine (HPT2.out _ HW4.out).mono ?_;rintro e w5 ⟨S',rfl,hqa,hb5⟩;dsimp only at hqa;have HW5:=Hd (HW4.out.trans (hb5.mono HW4.out.size));have HL5:=Hd (qlay_blk w5 q S');have HLB5:=Hd (qlay_below w5 q S');obtain⟨W6,hW6⟩:∃W6,W6=qlay w5 q S':=⟨_,rfl⟩;rw [←hW6] at HL5 HLB5;have HW6:=Hd (HW5.out.trans (HLB5.out.mono HW5.out.size));have HX6:=Hd (hb5.trans (HLB5.out.mono hb5.size));have HL36:=Hd (blk_on HL3.out HX6.out (blk_lt HL3.out));have HSM:=Hd (sameQ_calls q S S' W6 (HQ4.out.on HX6.out) (hqa.on HLB5.out));(simp only [qlay,qcs] at hW6);(simp only [qv]);(go_upto_region 15 with fail);rw [←hW6];clear hW6 hb5 hqa HQ4;(have HC1:=Hd (fun (i:Nat)=>blk_cell HL36.out i));(have HC2:=Hd (fun (i:Nat)=>blk_cell HL5.out i));(simp only [qcs] at HC1 HC2);(simp only [qv] at HSM);generalize q.V.length=n1 at *;generalize q.G.length=n2 at *;generalize q.B.length=n3 at *;generalize q.O.length=n4 at *;generalize q.C.length=n5 at *;(have c0:W6.cell? ⟨w3.heap.size,0,none⟩=some (.bool q.ask):=by rw [HC1.out 0];rfl);(have c1:W6.cell? ⟨w3.heap.size,1,none⟩=some (.bool q.dist):=by rw [HC1.out 1];rfl);(have c2:W6.cell? ⟨w3.heap.size,2,none⟩=some (.slice S.va n1 S.vc):=by rw [HC1.out 2];rfl);(have c3:W6.cell? ⟨w3.heap.size,3,none⟩=some (.slice S.ga n2 S.gc):=by rw [HC1.out 3];rfl);(have c4:W6.cell? ⟨w3.heap.size,4,none⟩=some (.bool q.gr):=by rw [HC1.out 4];rfl);(have c5:W6.cell? ⟨w3.heap.size,5,none⟩=some (.slice S.ba n3 S.bc):=by rw [HC1.out 5];rfl);(have c6:W6.cell? ⟨w3.heap.size,6,none⟩=some (.slice S.oa n4 S.oc):=by rw [HC1.out 6];rfl);(have c7:W6.cell? ⟨w3.heap.size,7,none⟩=some (.int .i64 q.lim):=by rw [HC1.out 7];rfl);(have c8:W6.cell? ⟨w3.heap.size,8,none⟩=some (.int .i64 q.off):=by rw [HC1.out 8];rfl);(have c9:W6.cell? ⟨w3.heap.size,9,none⟩=some (.slice S.ca n5 S.cc):=by rw [HC1.out 9];rfl);(have d0:W6.cell? ⟨w5.heap.size,0,none⟩=some (.bool q.ask):=by rw [HC2.out 0];rfl);(have d1:W6.cell? ⟨w5.heap.size,1,none⟩=some (.bool q.dist):=by rw [HC2.out 1];rfl);(have d2:W6.cell? ⟨w5.heap.size,2,none⟩=some (.slice S'.va n1 S'.vc):=by rw [HC2.out 2];rfl);(have d3:W6.cell? ⟨w5.heap.size,3,none⟩=some (.slice S'.ga n2 S'.gc):=by rw [HC2.out 3];rfl);(have d4:W6.cell? ⟨w5.heap.size,4,none⟩=some (.bool q.gr):=by rw [HC2.out 4];rfl);(have d5:W6.cell? ⟨w5.heap.size,5,none⟩=some (.slice S'.ba n3 S'.bc):=by rw [HC2.out 5];rfl);(have d6:W6.cell? ⟨w5.heap.size,6,none⟩=some (.slice S'.oa n4 S'.oc):=by rw [HC2.out 6];rfl);(have d7:W6.cell? ⟨w5.heap.size,7,none⟩=some (.int .i64 q.lim):=by rw [HC2.out 7];rfl);(have d8:W6.cell? ⟨w5.heap.size,8,none⟩=some (.int .i64 q.off):=by rw [HC2.out 8];rfl);(have d9:W6.cell? ⟨w5.heap.size,9,none⟩=some (.slice S'.ca n5 S'.cc):=by rw [HC2.out 9];rfl);have gZ:(Z==Z)=true:=beq_self_eq_true _;(go_wp2_with fail);refine HSM.out.mono ?_;rintro e w7 ⟨rfl,hb7⟩;have HW7:=Hd (HW6.out.trans (hb7.mono HW6.out.size));clear hb7;(go_wp2_with fail);refine (HAW.out _ HW7.out).mono ?_;rintro e w9 ⟨rfl,hb9⟩;have HB9:=Hd (HW7.out.trans (hb9.mono HW7.out.size));clear hb9;go_wp2;go_ret;exact⟨rfl,HB9.out⟩
end
end Go.Proofs.YtjpfoophipcglaaGreatDoor
