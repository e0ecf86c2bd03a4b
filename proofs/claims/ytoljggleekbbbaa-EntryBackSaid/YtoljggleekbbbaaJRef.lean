/-
  Walks over solderref10.Put and number.
-/
import Derived.Test.YtoljggleekbbbaaJPut
import Derived.Test.YtoljggleekbbbaaFRdF
import Derived.Test.YtoljggleekbbbaaHeld
import Derived.Deep.RegionHeld3
import Derived.Handy
namespace Go.Proofs.Ytoljggleekbbbaa
open Go.RowKit

end Go.Proofs.Ytoljggleekbbbaa
