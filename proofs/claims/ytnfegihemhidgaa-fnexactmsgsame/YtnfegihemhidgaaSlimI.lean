import Derived.Test.YtnfegihemhidgaaSlimS5
/- Lists that are made shorter: the program: what is deleted. -/
namespace Go.Proofs.Ytnfegihemhidgaa
open Go.RowKit

end Go.Proofs.Ytnfegihemhidgaa
