/- The variables of an operation that needs none: by the document's own answer. -/
import Derived.Test.YtjpfoophipcglaaGreatDoorKRefMores
import Derived.Test.YtjpfoophipcglaaGreatDoorKRefScopes
namespace Go.Proofs.YtjpfoophipcglaaGreatDoor
set_option maxRecDepth 100000
set_option maxHeartbeats 8000000
section
open Go.RowKit
def tpart (T:List TripL):List (List UInt8):=T.foldl (fun acc t=>unionO acc (varsL t)) []
def kindAt (r:List TermL) (k:Nat):Int:=if h:k<r.length then r[k].k else 1
def lackZ (k:Nat) (r:List TermL):Bool:=kindAt r k==0
def vpart (R:List (List TermL)) (V:List (List UInt8)) (cert:Bool) (acc:List (List UInt8)):Nat→List (List UInt8)
  | 0=>acc
  | k+1=>if (!cert||!R.any (lackZ k))=true then moreO (vpart R V cert acc k) (V.getD k []) else vpart R V cert acc k
def leafO (o:OpL) (cert:Bool):List (List UInt8):=vpart o.R o.V cert (tpart o.T) o.V.length
end
def namesF (C:List OpL) (cert:Bool):Nat→Nat→List (List UInt8)
  | 0,_=>[]
  | f + 1,i=>if h:i<C.length then
      if ndO C[i]=0 then leafO C[i] cert
      else if ndO C[i]=1 then
        if (cert&&C[i].s)=true then []
        else if C[i].k=8∧cert=false then moreO (namesF C cert f (i-1)) C[i].m
        else namesF C cert f (i-1)
      else if C[i].k=6∨(C[i].k=5∧cert=true) then namesF C cert f (fromC C (i-1)-1)
      else if C[i].k=4∧cert=true then meetO (namesF C cert f (fromC C (i-1)-1)) (namesF C cert f (i-1))
      else unionO (namesF C cert f (fromC C (i-1)-1)) (namesF C cert f (i-1))
    else []
theorem fromC_none {C:List OpL} (h:shB C=true) {i:Nat} (hi:i<C.length) (hn:ndO C[i]=0):fromC C i=i:=by
  obtain⟨_,_,h3⟩:=(shB_hts h).step i hi
  refine fromC_of ⟨Nat.le_refl _,by omega,fun q a b=>?_⟩
  have:q=i+1:=by omega
  rw [this];exact Nat.le_refl _
theorem fromC_one {C:List OpL} (h:shB C=true) {i:Nat} (hi:i+1<C.length) (hn:ndO C[i+1]=1):fromC C (i+1)=fromC C i:=by
  obtain⟨_,_,h3⟩:=(shB_hts h).step (i+1) hi
  have F:=fromC_at h (i:=i) (by omega)
  have f1:=F.le
  have f2:=F.at_
  refine fromC_of ⟨by omega,by omega,fun q a b=>?_⟩
  by_cases hq:q=i+1+1
  · rw [hq];exact Nat.le_refl _
  · have:=F.up q a (by omega);omega
theorem fromC_two {C:List OpL} (h:shB C=true) {i:Nat} (hi:i+1<C.length) (hn:ndO C[i+1]=2):fromC C (i+1)=fromC C (fromC C i-1):=by
 obtain⟨_,_,h3⟩:=(shB_hts h).step (i+1) hi;have hpos:=second_ahead h hi hn;(have F:=fromC_at h (i:=i) (by omega));have f1:=F.le;have f2:=F.at_;(obtain⟨p,hp⟩:∃p,fromC C i=p+1:=⟨fromC C i-1,by omega⟩);rw [hp] at F f1 f2 ⊢;rw [Nat.add_sub_cancel];(have G:=fromC_at h (i:=p) (by omega));have g1:=G.le;have g2:=G.at_;(refine fromC_of ⟨by omega,by omega,fun q a b=>?_⟩);by_cases hq:q=i+1+1
 ·rw [hq];exact Nat.le_refl _
 ·by_cases hq2:q≤p+1
  ·have:=G.up q a hq2;omega
  ·have:=F.up q (by omega) (by omega);omega
theorem vpart_length (R:List (List TermL)) (V:List (List UInt8)) (cert:Bool) (acc:List (List UInt8)):∀k,(vpart R V cert acc k).length≤acc.length+k
  | 0=>Nat.le_refl _
  | k+1=>by
    have h:=vpart_length R V cert acc k
    rw [vpart]
    split
    · have:=moreO_length (vpart R V cert acc k) (V.getD k []);omega
    · omega
theorem tpart_length:∀T:List TripL,∀acc:List (List UInt8),(T.foldl (fun acc t=>unionO acc (varsL t)) acc).length≤acc.length+3*T.length
  | [],_=>Nat.le_refl _
  | t::T,acc=>by
    have h1:=tpart_length T (unionO acc (varsL t))
    have h2:=unionO_length acc (varsL t)
    have h3:=varsL_length t
    rw [List.foldl_cons,List.length_cons]
    omega
theorem leafO_length (o:OpL) (cert:Bool) (h1:o.T.length≤32) (h2:o.V.length≤32):(leafO o cert).length≤128:=by
  have a:=vpart_length o.R o.V cert (tpart o.T) o.V.length
  have b:=tpart_length o.T []
  unfold leafO
  unfold tpart at a ⊢
  rw [List.length_nil] at b
  omega
theorem namesF_length {C:List OpL} (h:shB C=true) (cert:Bool) (h32:∀o∈C,o.T.length≤32∧o.V.length≤32):∀f i,i<f→i<C.length→(namesF C cert f i).length≤129*(i+1-fromC C i)
  | 0,i,hf,_=>absurd hf (Nat.not_lt_zero _)
  | f+1,i,hf,hi=>by
    have h2:=ndO_le C[i]
    rw [namesF,dif_pos hi]
    by_cases n0:ndO C[i]=0
    · rw [if_pos n0,fromC_none h hi n0]
      obtain⟨a,b⟩:=h32 _ (List.getElem_mem hi)
      have:=leafO_length C[i] cert a b
      omega
    · rw [if_neg n0]
      have hpos:=need_ahead h hi (by omega)
      obtain⟨j,rfl⟩:∃j,i=j+1:=⟨i-1,by omega⟩
      rw [Nat.add_sub_cancel]
      have ih:=namesF_length h cert h32 f j (by omega) (by omega)
      have fl:=fromC_le h (i:=j) (by omega)
      by_cases n1:ndO C[j+1]=1
      · rw [if_pos n1,fromC_one h hi n1]
        split
        · simp
        · split
          · have:=moreO_length (namesF C cert f j) C[j+1].m;omega
          · omega
      · rw [if_neg n1]
        have n2:ndO C[j+1]=2:=by omega
        have hs:=second_ahead h hi n2
        have e:=fromC_two h hi n2
        rw [e]
        have ih2:=namesF_length h cert h32 f (fromC C j-1) (by omega) (by omega)
        have fl2:=fromC_le h (i:=fromC C j-1) (by omega)
        split
        · omega
        · split
          · have:=meetO_length (namesF C cert f (fromC C j-1)) (namesF C cert f j);omega
          · have:=unionO_length (namesF C cert f (fromC C j-1)) (namesF C cert f j);omega
section
open Go.RowKit
theorem right_small {o:OpL} (h:rightO o=true):o.T.length≤32∧o.V.length≤32∧∀r∈o.R,r.length=o.V.length:=by
 (unfold rightO at h);split at h
 ·(simp only [Bool.and_eq_true,patsB,decide_eq_true_eq,List.isEmpty_iff] at h);obtain⟨⟨⟨⟨⟨⟨_,h1⟩,h2⟩,h3⟩,_⟩,_⟩,_⟩:=h;rw [h2,h3];exact⟨h1,by simp,by simp⟩
 ·split at h
  ·(simp only [Bool.and_eq_true,tableB,rowsB,decide_eq_true_eq,List.isEmpty_iff,List.all_eq_true] at h);obtain⟨⟨⟨⟨h1,⟨⟨⟨h2,_⟩,_⟩,h3⟩⟩,_⟩,_⟩,_⟩:=h;rw [h1];exact⟨by simp,h2,fun r hr=>(h3 r hr).1⟩
  ·have key:o.T=[]∧o.V=[]∧o.R=[]:=by
    split at h
    ·simp only [Bool.and_eq_true,List.isEmpty_iff] at h;exact⟨h.1.1.1.1.1,h.1.1.1.1.2,h.1.1.1.2⟩
    ·split at h
     ·simp only [Bool.and_eq_true,List.isEmpty_iff] at h;exact⟨h.1.1.1.1.1,h.1.1.1.1.2,h.1.1.1.2⟩
     ·split at h
      ·simp only [Bool.and_eq_true,List.isEmpty_iff] at h;exact⟨h.1.1.1.1.1,h.1.1.1.1.2,h.1.1.1.2⟩
      ·split at h
       ·simp only [Bool.and_eq_true,List.isEmpty_iff] at h;exact⟨h.1.1.1.1.1,h.1.1.1.1.2,h.1.1.1.2⟩
       ·split at h
        ·simp only [Bool.and_eq_true,List.isEmpty_iff] at h;exact⟨h.1.1.1.1,h.1.1.1.2,h.1.1.2⟩
        ·cases h
   obtain⟨h1,h2,h3⟩:=key;rw [h1,h2,h3];exact⟨by simp,by simp,by simp⟩
theorem ops_small {C:List OpL} (h:shB C=true):∀o∈C,o.T.length≤32∧o.V.length≤32:=fun o ho=>by
  obtain⟨k,hk,rfl⟩:=List.mem_iff_getElem.1 ho
  have:=right_small ((shB_hts h).step k hk).1
  exact⟨this.1,this.2.1⟩
theorem names_few {C:List OpL} (h:shB C=true) (hl:C.length≤128) (cert:Bool) (f i:Nat) (hf:i<f) (hi:i<C.length):(namesF C cert f i).length≤20000:=by
  have:=namesF_length h cert (ops_small h) f i hf hi
  omega
end
section
open Go.RowKit
theorem OpsA.kind {w:World} {a:Option Addr} {n c:Nat} {C:List OpL} (h:OpsA w a n c C) (h0:0<n):∃g o,a=some ⟨g,o,none⟩∧g<w.heap.size∧∀j,j<C.length→w.cell? ⟨g,o+j*7,none⟩=some (.int .i64 (kindO C j)):=by
  obtain⟨g,o,ha,hg,hc⟩:=h.cells h0
  refine⟨g,o,ha,hg,fun j hj=>?_⟩
  obtain⟨A,h7,_⟩:=hc j hj
  rw [kindO_at hj]
  exact h7.1
end
end Go.Proofs.YtjpfoophipcglaaGreatDoor
