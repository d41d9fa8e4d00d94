import Derived.Test.YtcfngdnmpogaoaaWalk10
import Derived.Deep.RegionHeld3
namespace Go.Proofs.Ytcfngdnmpogaoaa
open Go.RowKit

end Go.Proofs.Ytcfngdnmpogaoaa
