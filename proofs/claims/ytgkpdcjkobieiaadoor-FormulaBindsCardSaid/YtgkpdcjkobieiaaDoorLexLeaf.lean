
/- How many letters, digits and blanks a text begins with; where the next word must begin: package lex's small functions, for every text. -/
import Derived.Test.YtgkpdcjkobieiaaDoorLexPlain2
import Derived.Test.YtgkpdcjkobieiaaDoorTermUnquote
import Derived.Shelf.Strings.SlTrimAscii
namespace Go.Proofs.YtgkpdcjkobieiaaDoor
open Go.RowKit

end Go.Proofs.YtgkpdcjkobieiaaDoor
