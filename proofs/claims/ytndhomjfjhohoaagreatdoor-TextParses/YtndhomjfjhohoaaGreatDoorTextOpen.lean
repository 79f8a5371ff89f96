
/- A state's slices, opened. -/
import Derived.Test.YtndhomjfjhohoaaGreatDoorGroundA
import Derived.Test.YtndhomjfjhohoaaGreatDoorGroundH
import Derived.ProofKit
import Derived.OpenShut
namespace Go.Proofs.YtndhomjfjhohoaaGreatDoor
open Go.ChangeShapes Go.WideShapes Go.ChangeAt Go.RowKit Go.Deep
end Go.Proofs.YtndhomjfjhohoaaGreatDoor
