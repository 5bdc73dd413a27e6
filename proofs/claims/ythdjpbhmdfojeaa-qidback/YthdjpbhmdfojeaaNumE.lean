/-
  Package num: the function that Raw hands to guard.
-/
import Derived.Test.YthdjpbhmdfojeaaNumD
namespace Go.Proofs.Ythdjpbhmdfojeaa
open Go.RowKit

end Go.Proofs.Ythdjpbhmdfojeaa
