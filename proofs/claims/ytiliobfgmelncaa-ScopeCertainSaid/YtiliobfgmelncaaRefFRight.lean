
/- Which parts are right, by the document's own answer, for every part. -/
import Derived.Test.YtiliobfgmelncaaFormRights
import Derived.Test.YtiliobfgmelncaaFormNeedss
import Derived.Test.YtiliobfgmelncaaRefTrips
namespace Go.Proofs.Ytiliobfgmelncaa
open Go.RowKit

end Go.Proofs.Ytiliobfgmelncaa
