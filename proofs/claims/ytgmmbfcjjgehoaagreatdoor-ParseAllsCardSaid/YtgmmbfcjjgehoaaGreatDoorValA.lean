/- What the smallest functions of package value, and of its law package, answer: one sentence each, for every value. -/
import Derived.Test.YtgmmbfcjjgehoaaGreatDoorVal
namespace Go.Proofs.YtgmmbfcjjgehoaaGreatDoor
open Go.RowKit

end Go.Proofs.YtgmmbfcjjgehoaaGreatDoor
