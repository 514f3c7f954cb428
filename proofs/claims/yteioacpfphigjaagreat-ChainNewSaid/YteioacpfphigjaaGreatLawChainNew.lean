/- For every argument the law ChainNew returns true, and each argument reads behind the call as it read before it. No condition. -/
import Derived.Test.YteioacpfphigjaaGreatRows
import Derived.Test.YteioacpfphigjaaGreatLawChainNewB
namespace Go.Proofs.YteioacpfphigjaaGreat.chainNew
open Go.ChangeShapes Go.WideShapes Go.ChangeAt Go.RowKit

theorem proved : Rows.ChainNewSaid := row
end Go.Proofs.YteioacpfphigjaaGreat.chainNew
