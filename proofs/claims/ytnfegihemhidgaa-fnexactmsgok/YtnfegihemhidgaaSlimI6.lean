import Derived.Test.YtnfegihemhidgaaSlimI5
/- Lists that are made shorter: the program: a rule again and again; pairs. -/
namespace Go.Proofs.Ytnfegihemhidgaa
open Go.RowKit

end Go.Proofs.Ytnfegihemhidgaa
