import Derived.Test.YtcfngdnmpogaoaaWalk6
namespace Go.Proofs.Ytcfngdnmpogaoaa
open Go.RowKit

theorem str_of (s : ByteArray) : str s.data.toList = s := by
  apply ByteArray.ext
  simp [str]

end Go.Proofs.Ytcfngdnmpogaoaa
