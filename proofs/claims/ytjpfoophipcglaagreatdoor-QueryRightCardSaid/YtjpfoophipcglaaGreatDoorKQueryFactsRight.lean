/- The closed facts of the row QueryRight, each by itself. -/
import Derived.Test.YtjpfoophipcglaaGreatDoorKTakeKit
import Derived.Test.YtjpfoophipcglaaGreatDoorRows
import Derived.JoinedCond
import Derived.KernelRfl
namespace Go.Proofs.YtjpfoophipcglaaGreatDoor
set_option maxRecDepth 100000
set_option maxHeartbeats 8000000
section
open Go
theorem queryRight_wf:(Rows.queryRightRow.wf (OpenSpec.ofChange (OpenSpec.ofChange Rows.queryRightSpec).bare))=true:=by kernel_rfl
theorem queryRight_laidOut:(laidOutB Tryz.prog)=true:=by kernel_rfl
theorem queryRight_mapsRowed:(mapsRowed Tryz.prog)=true:=by kernel_rfl
theorem queryRight_params:(Tryz.f3.params.all (Tryz.prog.readableRec ·))=true:=by kernel_rfl
theorem queryRight_namedTie:(namedTie Tryz.prog Rows.queryRightRow.named (OpenSpec.ofChange Rows.queryRightSpec).bare.vars)=true:=by kernel_rfl
theorem queryRight_stops1:((Rows.queryRightRow.stops==[]))=true:=by kernel_rfl
theorem queryRight_stops2:((Tryz.prog.stops==[]))=true:=by kernel_rfl
theorem queryRight_knobs1:((Rows.queryRightRow.knobs==[]))=true:=by kernel_rfl
theorem queryRight_knobs2:((Tryz.prog.stopKnobs==[]))=true:=by kernel_rfl
theorem queryRight_inPlace:((Rows.queryRightRow.inPlace==Tryz.prog.inPlace 3))=true:=by kernel_rfl
theorem queryRight_unf:((Rows.queryRightRow.unfollowed==Tryz.prog.unfollowed 3))=true:=by kernel_rfl
theorem queryRight_rec:((Rows.queryRightRow.recurses==Tryz.prog.recurses 3))=true:=by kernel_rfl
theorem queryRight_named:((Rows.queryRightRow.named==Tryz.prog.varsNamed 3))=true:=by kernel_rfl
theorem queryRight_maps:((Rows.queryRightRow.maps==(Tryz.f3.params.toList++(OpenSpec.ofChange Rows.queryRightSpec).bare.plain.varTypes Tryz.prog).any (Tryz.prog.mapsRec ·)))=true:=by kernel_rfl
theorem queryRight_ifaces:((Rows.queryRightRow.ifaces==(Tryz.f3.params.toList++(OpenSpec.ofChange Rows.queryRightSpec).bare.plain.varTypes Tryz.prog).any (Tryz.prog.ifacesRec ·)))=true:=by kernel_rfl
theorem queryRight_mapsOut:((Rows.queryRightRow.mapsOut==Tryz.prog.mapsAmong Tryz.f3.resultTypes.toList))=true:=by kernel_rfl
theorem queryRight_loops:((Rows.queryRightRow.loops==(Tryz.f3.params.toList++(OpenSpec.ofChange Rows.queryRightSpec).bare.plain.varTypes Tryz.prog).any (Tryz.prog.loopsFrom ·)))=true:=by kernel_rfl
theorem queryRight_wide:((Rows.queryRightRow.wideKeys==(Tryz.f3.params.toList++(OpenSpec.ofChange Rows.queryRightSpec).bare.plain.varTypes Tryz.prog++Tryz.f3.resultTypes.toList).any (Tryz.prog.wideKeysFrom ·)))=true:=by kernel_rfl
theorem queryRight_readable:((OpenSpec.ofChange Rows.queryRightSpec).bare.vars.all (Tryz.prog.varReadable ·))=true:=by kernel_rfl
theorem queryRight_results:(Tryz.f3.resultTypes.all (fun t=>Tryz.prog.readableRec t&&decide (t < Tryz.prog.types.size)))=true:=by kernel_rfl
theorem queryRight_ifacesOut:((Rows.queryRightRow.ifacesOut==Tryz.f3.resultTypes.toList.any (Tryz.prog.ifacesRec ·)))=true:=by kernel_rfl
theorem queryRight_loopsOut:((Rows.queryRightRow.loopsOut==Tryz.f3.resultTypes.toList.any (Tryz.prog.loopsFrom ·)))=true:=by kernel_rfl
theorem queryRight_plainKeys:((Rows.queryRightRow.plainKeys==Tryz.prog.plainKeys))=true:=by kernel_rfl
theorem queryRight_short:(Rows.queryRightRow.shortTexts.isNone)=true:=by kernel_rfl
theorem queryRight_heard:(Tryz.prog.stopsHeard)=true:=by kernel_rfl
theorem queryRight_mayEnter:(Tryz.prog.mayEnter)=true:=by kernel_rfl
theorem queryRight_lifted:((Rows.queryRightRow.lifted==Tryz.prog.liftsFinal))=true:=by kernel_rfl
theorem queryRight_make:((Tryz.prog.make==some Rows.queryRightRow.make))=true:=by kernel_rfl
theorem queryRight_kinds:((Rows.queryRightRow.kinds==(if Rows.queryRightRow.domain.isEmpty then [] else Tryz.f3.params.toList.map fun t=>match Tryz.prog.underlying t with|some (.int k)=>some k|_=>none)))=true:=by kernel_rfl
theorem queryRight_pinned:((Rows.queryRightRow.pinned==Rows.queryRightRow.pinnedBy))=true:=by kernel_rfl
theorem queryRight_veiled:((Rows.queryRightRow.veiled==(Tryz.f3.params.toList++(OpenSpec.ofChange Rows.queryRightSpec).bare.plain.varTypes Tryz.prog++Tryz.f3.resultTypes.toList).any (Tryz.prog.veiledRec ·)))=true:=by kernel_rfl
theorem queryRight_veiledFits:(Rows.queryRightRow.veiledFits Tryz.prog Tryz.f3.params.toList (Tryz.f3.params.toList++(OpenSpec.ofChange Rows.queryRightSpec).bare.plain.varTypes Tryz.prog++Tryz.f3.resultTypes.toList))=true:=by kernel_rfl
theorem queryRight_facts:joinedFacts Tryz.prog 3 Tryz.f3 (OpenSpec.ofChange Rows.queryRightSpec).bare Rows.queryRightRow=true:=by
 (unfold joinedFacts);(simp only [Bool.and_eq_true]);exact⟨⟨⟨⟨⟨⟨⟨⟨⟨⟨⟨⟨⟨⟨⟨⟨⟨⟨⟨⟨⟨⟨⟨⟨⟨⟨⟨⟨⟨⟨⟨queryRight_wf,queryRight_laidOut⟩,queryRight_mapsRowed⟩,queryRight_params⟩,queryRight_namedTie⟩,queryRight_stops1⟩,queryRight_stops2⟩,queryRight_knobs1⟩,queryRight_knobs2⟩,queryRight_inPlace⟩,queryRight_unf⟩,queryRight_rec⟩,queryRight_named⟩,queryRight_maps⟩,queryRight_ifaces⟩,queryRight_mapsOut⟩,queryRight_loops⟩,queryRight_wide⟩,queryRight_readable⟩,queryRight_results⟩,queryRight_ifacesOut⟩,queryRight_loopsOut⟩,queryRight_plainKeys⟩,queryRight_short⟩,queryRight_heard⟩,queryRight_mayEnter⟩,queryRight_lifted⟩,queryRight_make⟩,queryRight_kinds⟩,queryRight_pinned⟩,queryRight_veiled⟩,queryRight_veiledFits⟩
theorem queryRight_instance:Tryz.f3.isInstance Tryz.prog Rows.queryRightRow.origin Rows.queryRightRow.targs:=of_decide_eq_true (by kernel_rfl)
theorem queryRight_wrapper:Tryz.f3.isWrapper Tryz.prog Rows.queryRightRow.wrapper Rows.queryRightRow.mainSum:=by unfold Func.isWrapper;rw [if_neg (of_decide_eq_false (by kernel_rfl))];exact⟨rfl,rfl⟩
theorem queryRight_found:Tryz.prog.funcNamed Rows.queryRightRow.func=some 3:=by kernel_rfl
end
end Go.Proofs.YtjpfoophipcglaaGreatDoor
