
/- The term that a text begins with: what package term's readers of IRIs and names come to, for every text. -/
import Derived.Test.YtgkpdcjkobieiaaDoorTermAhead
namespace Go.Proofs.YtgkpdcjkobieiaaDoor
open Go.RowKit

end Go.Proofs.YtgkpdcjkobieiaaDoor
