/- The closed facts of the row QueryBlanks, each by itself. -/
import Derived.Test.YtjpfoophipcglaaGreatDoorKTakeKit
import Derived.Test.YtjpfoophipcglaaGreatDoorRows
import Derived.JoinedCond
import Derived.KernelRfl
namespace Go.Proofs.YtjpfoophipcglaaGreatDoor
set_option maxRecDepth 100000
set_option maxHeartbeats 8000000
section
open Go
theorem queryBlanks_wf:(Rows.queryBlanksRow.wf (OpenSpec.ofChange (OpenSpec.ofChange Rows.queryBlanksSpec).bare))=true:=by kernel_rfl
theorem queryBlanks_laidOut:(laidOutB Tryz.prog)=true:=by kernel_rfl
theorem queryBlanks_mapsRowed:(mapsRowed Tryz.prog)=true:=by kernel_rfl
theorem queryBlanks_params:(Tryz.f4.params.all (Tryz.prog.readableRec ·))=true:=by kernel_rfl
theorem queryBlanks_namedTie:(namedTie Tryz.prog Rows.queryBlanksRow.named (OpenSpec.ofChange Rows.queryBlanksSpec).bare.vars)=true:=by kernel_rfl
theorem queryBlanks_stops1:((Rows.queryBlanksRow.stops==[]))=true:=by kernel_rfl
theorem queryBlanks_stops2:((Tryz.prog.stops==[]))=true:=by kernel_rfl
theorem queryBlanks_knobs1:((Rows.queryBlanksRow.knobs==[]))=true:=by kernel_rfl
theorem queryBlanks_knobs2:((Tryz.prog.stopKnobs==[]))=true:=by kernel_rfl
theorem queryBlanks_inPlace:((Rows.queryBlanksRow.inPlace==Tryz.prog.inPlace 4))=true:=by kernel_rfl
theorem queryBlanks_unf:((Rows.queryBlanksRow.unfollowed==Tryz.prog.unfollowed 4))=true:=by kernel_rfl
theorem queryBlanks_rec:((Rows.queryBlanksRow.recurses==Tryz.prog.recurses 4))=true:=by kernel_rfl
theorem queryBlanks_named:((Rows.queryBlanksRow.named==Tryz.prog.varsNamed 4))=true:=by kernel_rfl
theorem queryBlanks_maps:((Rows.queryBlanksRow.maps==(Tryz.f4.params.toList++(OpenSpec.ofChange Rows.queryBlanksSpec).bare.plain.varTypes Tryz.prog).any (Tryz.prog.mapsRec ·)))=true:=by kernel_rfl
theorem queryBlanks_ifaces:((Rows.queryBlanksRow.ifaces==(Tryz.f4.params.toList++(OpenSpec.ofChange Rows.queryBlanksSpec).bare.plain.varTypes Tryz.prog).any (Tryz.prog.ifacesRec ·)))=true:=by kernel_rfl
theorem queryBlanks_mapsOut:((Rows.queryBlanksRow.mapsOut==Tryz.prog.mapsAmong Tryz.f4.resultTypes.toList))=true:=by kernel_rfl
theorem queryBlanks_loops:((Rows.queryBlanksRow.loops==(Tryz.f4.params.toList++(OpenSpec.ofChange Rows.queryBlanksSpec).bare.plain.varTypes Tryz.prog).any (Tryz.prog.loopsFrom ·)))=true:=by kernel_rfl
theorem queryBlanks_wide:((Rows.queryBlanksRow.wideKeys==(Tryz.f4.params.toList++(OpenSpec.ofChange Rows.queryBlanksSpec).bare.plain.varTypes Tryz.prog++Tryz.f4.resultTypes.toList).any (Tryz.prog.wideKeysFrom ·)))=true:=by kernel_rfl
theorem queryBlanks_readable:((OpenSpec.ofChange Rows.queryBlanksSpec).bare.vars.all (Tryz.prog.varReadable ·))=true:=by kernel_rfl
theorem queryBlanks_results:(Tryz.f4.resultTypes.all (fun t=>Tryz.prog.readableRec t&&decide (t < Tryz.prog.types.size)))=true:=by kernel_rfl
theorem queryBlanks_ifacesOut:((Rows.queryBlanksRow.ifacesOut==Tryz.f4.resultTypes.toList.any (Tryz.prog.ifacesRec ·)))=true:=by kernel_rfl
theorem queryBlanks_loopsOut:((Rows.queryBlanksRow.loopsOut==Tryz.f4.resultTypes.toList.any (Tryz.prog.loopsFrom ·)))=true:=by kernel_rfl
theorem queryBlanks_plainKeys:((Rows.queryBlanksRow.plainKeys==Tryz.prog.plainKeys))=true:=by kernel_rfl
theorem queryBlanks_short:(Rows.queryBlanksRow.shortTexts.isNone)=true:=by kernel_rfl
theorem queryBlanks_heard:(Tryz.prog.stopsHeard)=true:=by kernel_rfl
theorem queryBlanks_mayEnter:(Tryz.prog.mayEnter)=true:=by kernel_rfl
theorem queryBlanks_lifted:((Rows.queryBlanksRow.lifted==Tryz.prog.liftsFinal))=true:=by kernel_rfl
theorem queryBlanks_make:((Tryz.prog.make==some Rows.queryBlanksRow.make))=true:=by kernel_rfl
theorem queryBlanks_kinds:((Rows.queryBlanksRow.kinds==(if Rows.queryBlanksRow.domain.isEmpty then [] else Tryz.f4.params.toList.map fun t=>match Tryz.prog.underlying t with|some (.int k)=>some k|_=>none)))=true:=by kernel_rfl
theorem queryBlanks_pinned:((Rows.queryBlanksRow.pinned==Rows.queryBlanksRow.pinnedBy))=true:=by kernel_rfl
theorem queryBlanks_veiled:((Rows.queryBlanksRow.veiled==(Tryz.f4.params.toList++(OpenSpec.ofChange Rows.queryBlanksSpec).bare.plain.varTypes Tryz.prog++Tryz.f4.resultTypes.toList).any (Tryz.prog.veiledRec ·)))=true:=by kernel_rfl
theorem queryBlanks_veiledFits:(Rows.queryBlanksRow.veiledFits Tryz.prog Tryz.f4.params.toList (Tryz.f4.params.toList++(OpenSpec.ofChange Rows.queryBlanksSpec).bare.plain.varTypes Tryz.prog++Tryz.f4.resultTypes.toList))=true:=by kernel_rfl
theorem queryBlanks_facts:joinedFacts Tryz.prog 4 Tryz.f4 (OpenSpec.ofChange Rows.queryBlanksSpec).bare Rows.queryBlanksRow=true:=by
 (unfold joinedFacts);(simp only [Bool.and_eq_true]);exact⟨⟨⟨⟨⟨⟨⟨⟨⟨⟨⟨⟨⟨⟨⟨⟨⟨⟨⟨⟨⟨⟨⟨⟨⟨⟨⟨⟨⟨⟨⟨queryBlanks_wf,queryBlanks_laidOut⟩,queryBlanks_mapsRowed⟩,queryBlanks_params⟩,queryBlanks_namedTie⟩,queryBlanks_stops1⟩,queryBlanks_stops2⟩,queryBlanks_knobs1⟩,queryBlanks_knobs2⟩,queryBlanks_inPlace⟩,queryBlanks_unf⟩,queryBlanks_rec⟩,queryBlanks_named⟩,queryBlanks_maps⟩,queryBlanks_ifaces⟩,queryBlanks_mapsOut⟩,queryBlanks_loops⟩,queryBlanks_wide⟩,queryBlanks_readable⟩,queryBlanks_results⟩,queryBlanks_ifacesOut⟩,queryBlanks_loopsOut⟩,queryBlanks_plainKeys⟩,queryBlanks_short⟩,queryBlanks_heard⟩,queryBlanks_mayEnter⟩,queryBlanks_lifted⟩,queryBlanks_make⟩,queryBlanks_kinds⟩,queryBlanks_pinned⟩,queryBlanks_veiled⟩,queryBlanks_veiledFits⟩
theorem queryBlanks_instance:Tryz.f4.isInstance Tryz.prog Rows.queryBlanksRow.origin Rows.queryBlanksRow.targs:=of_decide_eq_true (by kernel_rfl)
theorem queryBlanks_wrapper:Tryz.f4.isWrapper Tryz.prog Rows.queryBlanksRow.wrapper Rows.queryBlanksRow.mainSum:=by unfold Func.isWrapper;rw [if_neg (of_decide_eq_false (by kernel_rfl))];exact⟨rfl,rfl⟩
theorem queryBlanks_found:Tryz.prog.funcNamed Rows.queryBlanksRow.func=some 4:=by kernel_rfl
end
end Go.Proofs.YtjpfoophipcglaaGreatDoor
