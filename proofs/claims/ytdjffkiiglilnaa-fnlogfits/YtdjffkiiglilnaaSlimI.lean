import Derived.Test.YtdjffkiiglilnaaSlimS5
/- Lists that are made shorter: the program: what is deleted. -/
namespace Go.Proofs.Ytdjffkiiglilnaa
open Go.RowKit

end Go.Proofs.Ytdjffkiiglilnaa
