import Derived.Test.YtdjffkiiglilnaaSlimI5
/- Lists that are made shorter: the program: a rule again and again; pairs. -/
namespace Go.Proofs.Ytdjffkiiglilnaa
open Go.RowKit

end Go.Proofs.Ytdjffkiiglilnaa
