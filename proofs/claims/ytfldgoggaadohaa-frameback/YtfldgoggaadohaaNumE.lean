/-
  Package num: the function that Raw hands to guard.
-/
import Derived.Test.YtfldgoggaadohaaNumD
namespace Go.Proofs.Ytfldgoggaadohaa
open Go.RowKit

end Go.Proofs.Ytfldgoggaadohaa
