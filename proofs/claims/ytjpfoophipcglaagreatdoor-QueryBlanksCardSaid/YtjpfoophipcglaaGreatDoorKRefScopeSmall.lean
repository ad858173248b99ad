/- What may stand in a table, names looked for, patterns: by the document's own answer. -/
import Derived.Test.YtjpfoophipcglaaGreatDoorKFormCheckss
import Derived.Test.YtjpfoophipcglaaGreatDoorKRefTrips
import Derived.Test.YtjpfoophipcglaaGreatDoorKTripCheck
namespace Go.Proofs.YtjpfoophipcglaaGreatDoor
set_option maxRecDepth 100000
set_option maxHeartbeats 8000000
section
open Go.RowKit
theorem patsB_long {T:List TripL} (h:32<T.length):patsB T=false:=by unfold patsB;rw [decide_eq_false (by omega)];simp
end
end Go.Proofs.YtjpfoophipcglaaGreatDoor
