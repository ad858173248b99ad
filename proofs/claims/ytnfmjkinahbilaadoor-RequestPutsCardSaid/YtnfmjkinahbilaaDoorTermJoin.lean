/- Two texts joined, as bytes. -/
import Derived.Test.YtnfmjkinahbilaaDoorTermAheadPlain
namespace Go.Proofs.YtnfmjkinahbilaaDoor

theorem bs_app (a b : List UInt8) : bs a ++ bs b = bs (a ++ b) := bs_eq (by show (bs a ++ bs b).data.toList = _; simp [bs])

end Go.Proofs.YtnfmjkinahbilaaDoor
