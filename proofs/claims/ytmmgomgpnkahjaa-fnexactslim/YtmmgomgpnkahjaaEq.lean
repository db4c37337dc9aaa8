/- Contracts of the law eqTree, at two readings of one tree. -/
import Derived.Test.YtmmgomgpnkahjaaMem
namespace Go.Proofs.Ytmmgomgpnkahjaa
open Go.RowKit

end Go.Proofs.Ytmmgomgpnkahjaa
