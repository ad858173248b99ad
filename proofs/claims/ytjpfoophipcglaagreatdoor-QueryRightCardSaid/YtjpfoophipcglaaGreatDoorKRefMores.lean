/- Names in order, with one more: by the document's own answer. -/
import Derived.Test.YtjpfoophipcglaaGreatDoorKRefScopeSmall
import Derived.Test.YtjpfoophipcglaaGreatDoorKTripVarss
namespace Go.Proofs.YtjpfoophipcglaaGreatDoor
set_option maxRecDepth 100000
set_option maxHeartbeats 8000000
section
open Go.RowKit
def NamesT (w:World) (M:List (List UInt8)) (e:Ending) (w':World):Prop:=∃a c,e=.returned (.slice a M.length c)∧TxtA w' a M.length c M∧Below w.heap.size w w'
theorem txtA_own {w:World} {B:Nat} {v:Value} {M:List (List UInt8)} (h:w.ownsRow B 9 1 v M.length (textCells M)):∃a c,v=.slice a M.length c∧TxtA w a M.length c M:=by
  rcases reads_of h with ⟨rfl,h0⟩|⟨g,cap,rfl,hg,hc,hm,hr⟩
  · exact⟨none,0,by rw [h0],rfl,by rw [h0];exact Nat.le_refl _,Nat.zero_le _,fun h=>absurd h (by omega)⟩
  · exact⟨_,_,rfl,rfl,hc,hm,fun _=>⟨g,0,rfl,hg,fun j hj=>by rw [Nat.zero_add];exact hr j _ (by simp [textCells,hj])⟩⟩
end
section
open Go.RowKit
theorem meetO_length (L M:List (List UInt8)):(meetO L M).length≤L.length:=List.length_filter_le _ _
end
end Go.Proofs.YtjpfoophipcglaaGreatDoor
