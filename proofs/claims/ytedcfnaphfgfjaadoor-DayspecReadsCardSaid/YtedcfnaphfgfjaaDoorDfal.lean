/- The contract of dayform.Always. -/
import Derived.Test.YtedcfnaphfgfjaaDoorDfon
namespace Go.Proofs.YtedcfnaphfgfjaaDoor
open Go.RowKit

end Go.Proofs.YtedcfnaphfgfjaaDoor
