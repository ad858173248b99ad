/- How many cells the types of arguments take. -/
import Derived.Test.YtjpfoophipcglaaGreatDoorRows
import Derived.Lib.LaidCaseMet
import Derived.ProofKit
import Derived.OpenShut
import Derived.SizedLaws
import Derived.Lib.LaidTab
import Derived.Stop.LaidErr
import Derived.MakeChecks
import Derived.Deep.DeepHandedRow
import Derived.Test.YtjpfoophipcglaaGreatDoorKQTails
import Derived.LaidLaws
namespace Go.Proofs.YtjpfoophipcglaaGreatDoor
set_option maxRecDepth 100000
set_option maxHeartbeats 8000000
theorem Tryz.cellsString:Tryz.prog.cellsOf 9=1:=by kernel_rfl
section
open Go.ChangeShapes Go.WideShapes Go.ChangeAt Go.RowKit Go.Joins
theorem Tryz.own:ownKnob Tryz.prog.godebug=none:=by kernel_rfl
theorem laid_swap {P:Program} {w:World} {x y:String×DataW Unit}:∀(l:List (String×DataW Unit)) (ps:List MemPlace),DataW.LaidVars P w (l++[y,x]) ps→∃qs,DataW.LaidVars P w (l++[x,y]) qs∧qs.Perm ps
  | [],ps,h=>by
    obtain⟨ny,dy⟩:=y
    obtain⟨nx,dx⟩:=x
    obtain⟨g,t,cs,fuel,p,q,a1,a2,a3,a4,h2,rfl⟩:=h
    obtain⟨g',t',cs',fuel',p',q',b1,b2,b3,b4,h3,rfl⟩:=h2
    obtain rfl:q'=[]:=h3
    refine⟨MemPlace.row ⟨g',0,none⟩ cs'.size++p'++(MemPlace.row ⟨g,0,none⟩ cs.size++p++[]),⟨g',t',cs',fuel',p',_,b1,b2,b3,b4,⟨g,t,cs,fuel,p,[],a1,a2,a3,a4,rfl,rfl⟩,rfl⟩,?_⟩
    simp only [List.append_nil]
    exact List.perm_append_comm
  | (n,d)::l,ps,h=>by
    obtain⟨g,t,cs,fuel,p,q,a1,a2,a3,a4,h2,rfl⟩:=h
    obtain⟨qs,hq,hp⟩:=laid_swap l q h2
    exact⟨_,⟨g,t,cs,fuel,p,qs,a1,a2,a3,a4,hq,rfl⟩,hp.append_left _⟩
theorem laidMet_swap {P:Program} {w:World} {x y:String×DataW Unit} {l:List (String×DataW Unit)} (h:laidMet P (l++[y,x]) w):laidMet P (l++[x,y]) w:=by
  obtain⟨ps,h1,h2,h3⟩:=h
  obtain⟨qs,hq,hp⟩:=laid_swap l ps h1
  exact⟨qs,hq,hp.nodup_iff.2 h2,fun b off hm=>h3 b off (hp.mem_iff.1 hm)⟩
theorem gMarks:Tryz.prog.globalNamed "legation/formula.marks"=some 7:=by kernel_rfl
theorem gLevels:Tryz.prog.globalNamed "legation/formula.levels"=some 5:=by kernel_rfl
theorem yMarks:(Tryz.prog.globals[7]?).map (·.type)=some 297:=by kernel_rfl
theorem yLevels:(Tryz.prog.globals[5]?).map (·.type)=some 286:=by kernel_rfl
theorem Tryz.cellsLevel:Tryz.prog.cellsOf 285=3:=by kernel_rfl
theorem marks_data:(Rows.laid_legation_formula_marks:DataW Unit)=.agg (marksL.map fun l=>.lit (.string l)):=rfl
theorem levels_data:(Rows.laid_legation_formula_levels:DataW Unit)=.agg (levelsL.map fun x=>.agg [.lit (.int .i64 (x.1:Int)),.lit (.int .i64 (x.2.1:Int)),.lit (.bool x.2.2)]):=rfl
theorem var_cell {P:Program} {w:World} {n:String} {g:Nat} {cs:Array Value} (hg:P.globalNamed n=some g) (hv:w.var? P n=some cs) (i:Nat):w.cell? ⟨g,i,none⟩=cs.toList[i]?:=by
  rw [World.var?_cell hg hv i,←Array.getElem?_toList]
theorem marks_cell {w:World} (h:Lib.VarReads Tryz.prog w "legation/formula.marks" Rows.laid_legation_formula_marks) (k:Nat) (hk:k<27):w.cell? ⟨7,k,none⟩=some (.string (bs (markN k))):=by
 obtain⟨g,t,cs,fuel,p,hg,hty,hvar,hd⟩:=h;obtain rfl:=Option.some.inj (gMarks.symm.trans hg);obtain rfl:=Option.some.inj (yMarks.symm.trans hty);rw [marks_data] at hd;obtain⟨f',d,q,hdi,ht⟩:=Lib.array_elem Tryz.underlying297 hd k hk;rw [Tryz.cellsString,Nat.mul_one] at ht;obtain⟨s,hs,hx,_⟩:=DataW.trod_string Tryz.underlying9 ht;have hc:=at_of_take hs;rw [var_cell hg hvar k,hc];have hlen:k<marksL.length:=hk;rw [List.getElem?_map,List.getElem?_eq_getElem hlen] at hdi;have hx1:=congrArg Prod.fst hx;(simp only [Option.map_some,Option.some.injEq] at hdi hx1);rw [←hdi] at hx1;(have e:marksL[k]=s.data.toList:=by simpa using hx1);(rw [show markN k=marksL[k] by unfold markN;simp [List.getD,List.getElem?_eq_getElem hlen],e]);rfl
theorem levels_cell {w:World} (h:Lib.VarReads Tryz.prog w "legation/formula.levels" Rows.laid_legation_formula_levels) (k:Nat) (hk:k<5):w.cell? ⟨5,k*3,none⟩=some (.int .i64 (lev k).1)∧w.cell? ⟨5,k*3+1,none⟩=some (.int .i64 (lev k).2.1)∧w.cell? ⟨5,k*3+2,none⟩=some (.bool (lev k).2.2):=by
 obtain⟨g,t,cs,fuel,p,hg,hty,hvar,hd⟩:=h;obtain rfl:=Option.some.inj (gLevels.symm.trans hg);obtain rfl:=Option.some.inj (yLevels.symm.trans hty);rw [levels_data] at hd;obtain⟨f',d,q,hdi,ht⟩:=Lib.array_elem Tryz.underlying286 hd k hk;rw [Tryz.cellsLevel] at ht;obtain⟨xs,n,_,hx,hl,hlen,hall⟩:=DataW.trod_struct Tryz.underlying285 ht;have hkl:k<levelsL.length:=hk;rw [List.getElem?_map,List.getElem?_eq_getElem hkl] at hdi;have hx1:=congrArg Prod.fst hx;(simp only [Option.map_some,Option.some.injEq] at hdi hx1);rw [←hdi] at hx1;(have hlv:lev k=levelsL[k]:=by unfold lev;simp [List.getD,List.getElem?_eq_getElem hkl]);rw [hlv];generalize levelsL[k]=z at hx1;obtain⟨z0,z1,z2⟩:=z;match xs,hlen with
 | [x0,x1,x2],_ =>
   (have f0:=hall 0 _ rfl);(have f1:=hall 1 _ rfl);(have f2:=hall 2 _ rfl);(simp only [List.getElem?_cons_zero,List.getElem?_cons_succ] at f0 f1 f2);obtain⟨i0,c0,rfl,_⟩:=DataW.trod_int Tryz.underlying3 f0;obtain⟨i1,c1,rfl,_⟩:=DataW.trod_int Tryz.underlying3 f1;obtain⟨i2,c2,rfl⟩:=DataW.trod_bool Tryz.underlying4 f2;(simp at hx1);obtain⟨rfl,rfl,rfl⟩:=hx1;have g0:=congrArg (·[0]?) c0;have g1:=congrArg (·[0]?) c1;have g2:=congrArg (·[0]?) c2;(simp [List.getElem?_take,List.getElem?_drop] at g0 g1 g2);refine⟨?_,?_,?_⟩
   ·rw [var_cell hg hvar];simpa using g0.2
   ·rw [var_cell hg hvar];simpa using g1.2
   ·rw [var_cell hg hvar];simpa using g2.2
end
section
open Go.ChangeShapes Go.WideShapes Go.ChangeAt Go.RowKit Go.Joins
def caseRen:Go.Shelf.Ren:=⟨fun|274=>317 | n=>n,fun|21=>21 | 162=>318 | 160=>319 | 3=>3 | 4=>4 | 46=>167 | 0=>0 | 208=>325 | 51=>211 | 206=>323 | n=>n,fun|13=>10 | n=>n⟩
theorem caseLays:Go.Proofs.Lays.n274 Tryz.prog caseRen:={
  mixed:=by kernel_rfl
  f274:=Tryz.func317.trans (congrArg some (by kernel_rfl))
  t0:=Tryz.underlying0
  a0:=Tryz.isAgg0
  z0:=Tryz.sizeOf0
  v0:=Tryz.zeroValue0
  t3:=Tryz.underlying3
  a3:=Tryz.isAgg3
  z3:=Tryz.sizeOf3
  v3:=Tryz.zeroValue3
  t4:=Tryz.underlying4
  a4:=Tryz.isAgg4
  z4:=Tryz.sizeOf4
  v4:=Tryz.zeroValue4
  t21:=Tryz.underlying21
  a21:=Tryz.isAgg21
  z21:=Tryz.sizeOf21
  v21:=Tryz.zeroValue21
  t46:=Tryz.underlying167
  a46:=Tryz.isAgg167
  z46:=Tryz.sizeOf167
  v46:=Tryz.zeroValue167
  t51:=Tryz.underlying211
  a51:=Tryz.isAgg211
  z51:=Tryz.sizeOf211
  v51:=Tryz.zeroValue211
  t160:=Tryz.underlying319
  a160:=Tryz.isAgg319
  z160:=Tryz.sizeOf319
  v160:=Tryz.zeroValue319
  t162:=Tryz.underlying318
  a162:=Tryz.isAgg318
  z162:=Tryz.sizeOf318
  v162:=Tryz.zeroValue318
  t208:=Tryz.underlying325
  a208:=Tryz.isAgg325
  z208:=Tryz.sizeOf325
  v208:=Tryz.zeroValue325 }
def lay (h:Array Obj) (g:Nat) (l:List Value):Array Obj:=h.modify g fun
  | .cells _ t frozen=>.cells l.toArray t frozen
  | o=>o
def rangeTab:List Int:=[128,191,160,191,128,159,144,191,128,143,0,0,0,0,0,0,0,0,0,0,0,0,0,0,0,0,0,0,0,0,0,0]
def levelCells:List Value:=levelsL.flatMap fun x=>[.int .i64 (x.1:Int),.int .i64 (x.2.1:Int),.bool x.2.2]
theorem case_eq:(Rows.laid_unicode_CaseRanges:DataW Unit)=Lib.caseData:=by kernel_rfl
theorem cell_in {w:World} {a:Addr} {v:Value} (h:w.cell? a=some v):a.block<w.heap.size:=World.block_lt_of_cell? w a h
end
section
open Go.ChangeShapes Go.WideShapes Go.ChangeAt Go.RowKit Go.Joins
def bru32:List Int:=[0,1,28,2,29,14,24,3,30,22,20,15,25,17,4,8,31,27,13,23,21,19,16,7,26,12,18,6,11,5,10,9]
def bru64:List Int:=[0,1,56,2,57,49,28,3,61,58,42,50,38,29,17,4,62,47,59,36,45,43,51,22,53,39,33,30,24,18,12,5,63,55,48,27,60,41,37,16,46,35,44,21,52,32,23,11,54,26,40,15,34,20,31,10,25,14,19,9,13,8,7,6]
def pow10s:List Int:=[1,10,100,1000,10000,100000,1000000,10000000,100000000,1000000000,10000000000,100000000000,1000000000000,10000000000000,100000000000000,1000000000000000,10000000000000000,100000000000000000,1000000000000000000,10000000000000000000]
def synS:ByteArray:=⟨#[105,110,118,97,108,105,100,32,115,121,110,116,97,120]⟩
def rngS:ByteArray:=⟨#[118,97,108,117,101,32,111,117,116,32,111,102,32,114,97,110,103,101]⟩
noncomputable def laidWorld8 (os:Os):World :=
  let w0:=World.holding Tryz.prog os ⟨#[.cells Lib.caseCells5 325,.cells #[.string synS] 264,.cells #[.string rngS] 264],#[],[]⟩
  let N:=(World.settled Tryz.prog os).heap.size
  { w0 with heap:=lay (lay (lay (lay (lay (lay (lay (lay (lay (lay w0.heap 8 (bru32.map (.int .u8))) 9 (bru64.map (.int .u8))) 6 (pow10s.map (.int .u64))) 3 (rangeTab.map (.int .u8))) 2 (Go.Pinned.utf8FirstZ.map fun (n:Nat)=>.int .u8 (n:Int))) 7 (marksL.map fun l=>.string (bs l))) 5 levelCells) 10 [.slice (some ⟨N,0,none⟩) 336 336]) 0 [.iface 262 (.pointer (some ⟨N+1,0,none⟩))]) 1 [.iface 262 (.pointer (some ⟨N+2,0,none⟩))] }
def first8:List (String×DataW Unit):=[("math/bits.deBruijn32tab",Rows.laid_math_bits_deBruijn32tab),("math/bits.deBruijn64tab",Rows.laid_math_bits_deBruijn64tab),("internal/strconv.uint64pow10",Rows.laid_internal_strconv_uint64pow10),("unicode/utf8.acceptRanges",Rows.laid_unicode_utf8_acceptRanges),("strconv.ErrRange",Rows.laid_strconv_ErrRange),("strconv.ErrSyntax",Rows.laid_strconv_ErrSyntax),("legation/formula.levels",Rows.laid_legation_formula_levels),("legation/formula.marks",Rows.laid_legation_formula_marks)]
def theLaid8:List (String×DataW Unit):=[("math/bits.deBruijn32tab",Rows.laid_math_bits_deBruijn32tab),("math/bits.deBruijn64tab",Rows.laid_math_bits_deBruijn64tab),("internal/strconv.uint64pow10",Rows.laid_internal_strconv_uint64pow10),("unicode/utf8.acceptRanges",Rows.laid_unicode_utf8_acceptRanges),("strconv.ErrRange",Rows.laid_strconv_ErrRange),("strconv.ErrSyntax",Rows.laid_strconv_ErrSyntax),("legation/formula.levels",Rows.laid_legation_formula_levels),("legation/formula.marks",Rows.laid_legation_formula_marks),("unicode.CaseRanges",Rows.laid_unicode_CaseRanges),("unicode/utf8.first",Rows.laid_unicode_utf8_first)]
theorem case_last8 {w:World} (h:laidMet Tryz.prog ([("math/bits.deBruijn32tab",Rows.laid_math_bits_deBruijn32tab),("math/bits.deBruijn64tab",Rows.laid_math_bits_deBruijn64tab),("internal/strconv.uint64pow10",Rows.laid_internal_strconv_uint64pow10),("unicode/utf8.acceptRanges",Rows.laid_unicode_utf8_acceptRanges),("strconv.ErrRange",Rows.laid_strconv_ErrRange),("strconv.ErrSyntax",Rows.laid_strconv_ErrSyntax),("legation/formula.levels",Rows.laid_legation_formula_levels),("legation/formula.marks",Rows.laid_legation_formula_marks),("unicode/utf8.first",Rows.laid_unicode_utf8_first)]++[("unicode.CaseRanges",Lib.caseData)]) w):laidMet Tryz.prog theLaid8 w:=by
 (unfold theLaid8);rw [case_eq];exact laidMet_swap (l:=first8) h
theorem good8_of {W:World} (h0:laidMetH Tryz.prog theLaid8 W):Good W.heap.size W∧laidMet Tryz.prog theLaid8 W:=by
 have h:laidMet Tryz.prog theLaid8 W:=by
  (rw [MakeChecks.laidMetH_plain _ _ _ (by kernel_rfl)] at h0);exact h0
 have hm:=Lib.laidMet.reads h (n:= "legation/formula.marks") (d:=Rows.laid_legation_formula_marks) (.tail _ (.tail _ (.tail _ (.tail _ (.tail _ (.tail _ (.tail _ (.head _))))))));have hl:=Lib.laidMet.reads h (n:= "legation/formula.levels") (d:=Rows.laid_legation_formula_levels) (.tail _ (.tail _ (.tail _ (.tail _ (.tail _ (.tail _ (.head _)))))));exact⟨⟨fun k hk=>marks_cell hm k hk,fun k hk=>(levels_cell hl k hk).1,fun k hk=>(levels_cell hl k hk).2.1,fun k hk=>(levels_cell hl k hk).2.2,cell_in (marks_cell hm 0 (by decide)),cell_in (levels_cell hl 0 (by decide)).1⟩,h⟩
theorem errStar: "*"++ "errors.errorString"= "*errors.errorString":=by decide
theorem errRow (u:TypeId) (h:Tryz.prog.typeName? 3 u=some "*errors.errorString"):u=262 :=
  typeName_ptr_named (nm:= "errors.errorString") (by rw [errStar];kernel_rfl) (by kernel_rfl) (by decide) u (by rw [errStar];exact h)
theorem gErrS:Tryz.prog.globalNamed "strconv.ErrSyntax"=some 0:=by kernel_rfl
theorem gErrR:Tryz.prog.globalNamed "strconv.ErrRange"=some 1:=by kernel_rfl
theorem yErrS:(Tryz.prog.globals[0]?).map (·.type)=some 129:=by kernel_rfl
theorem yErrR:(Tryz.prog.globals[1]?).map (·.type)=some 129:=by kernel_rfl
theorem cErr:Tryz.prog.cellsOf 264=1:=by kernel_rfl
theorem cStr:Tryz.prog.cellsOf 9=1:=by kernel_rfl
theorem errG_of {W:World} (h:laidMet Tryz.prog theLaid8 W):ErrG W.heap.size W:=by
 have h4:=h.tail.tail.tail.tail;obtain⟨a0,s0,hv0,_⟩:=laid_sentinel h4 gErrR yErrR Tryz.underlying129 errRow Tryz.underlying262 Tryz.underlying264 rfl rfl Tryz.underlying9 cErr cStr;obtain⟨a1,s1,hv1,_⟩:=laid_sentinel h4.tail gErrS yErrS Tryz.underlying129 errRow Tryz.underlying262 Tryz.underlying264 rfl rfl Tryz.underlying9 cErr cStr;(have e0:W.cell? ⟨1,0,none⟩=some (.iface 262 (.pointer (some a0))):=by have h0:=World.var?_cell gErrR hv0 0;simpa using h0);(have e1:W.cell? ⟨0,0,none⟩=some (.iface 262 (.pointer (some a1))):=by have h0:=World.var?_cell gErrS hv1 0;simpa using h0);exact⟨_,_,e1,.inr ⟨_,_,rfl⟩,e0,.inr ⟨_,_,rfl⟩,cell_in e1,cell_in e0⟩
theorem met8 (os:Os) (args:Array Value):laidMet Tryz.prog theLaid8 ((laidWorld8 os).forCall (fun _ _=>0) ⟨#[],args,[]⟩).memory :=
  case_last8 (laidMet_with_case (ρ:=caseRen) caseLays Tryz.underlying323 ⟨by kernel_rfl,by kernel_rfl,by kernel_rfl,by kernel_rfl,by kernel_rfl,by kernel_rfl⟩
    (l:=[("math/bits.deBruijn32tab",Rows.laid_math_bits_deBruijn32tab),("math/bits.deBruijn64tab",Rows.laid_math_bits_deBruijn64tab),("internal/strconv.uint64pow10",Rows.laid_internal_strconv_uint64pow10),("unicode/utf8.acceptRanges",Rows.laid_unicode_utf8_acceptRanges),("strconv.ErrRange",Rows.laid_strconv_ErrRange),("strconv.ErrSyntax",Rows.laid_strconv_ErrSyntax),("legation/formula.levels",Rows.laid_legation_formula_levels),("legation/formula.marks",Rows.laid_legation_formula_marks),("unicode/utf8.first",Rows.laid_unicode_utf8_first)])
    8 (by kernel_rfl) (by kernel_rfl) (by kernel_rfl) ((World.settled Tryz.prog default).heap.size) 325 (of_decide_eq_true (by kernel_rfl)) (by kernel_rfl) (by kernel_rfl) (by kernel_rfl))
end
end Go.Proofs.YtjpfoophipcglaaGreatDoor
