import Derived.Test.YtnfegihemhidgaaSlimI6
import Derived.BigRegion
/- Lists that are made shorter: the program: where something is then. -/
namespace Go.Proofs.Ytnfegihemhidgaa
open Go.RowKit

def startV (o : LOp) : Value := .agg #[.int .i64 o.dir, .string o.name]
def endV (o : LOp) : Value := if o.kind == 4 then .agg #[.int .i64 o.dir2, .string o.name2] else .agg #[.int .i64 o.dir, .string o.name]
end Go.Proofs.Ytnfegihemhidgaa
