
/- Which rows of parts are formulas, by the document's own answer, for every row. -/
import Derived.Test.YtiliobfgmelncaaFormCheck
import Derived.Test.YtiliobfgmelncaaRefFRight
namespace Go.Proofs.Ytiliobfgmelncaa
open Go.RowKit

end Go.Proofs.Ytiliobfgmelncaa
