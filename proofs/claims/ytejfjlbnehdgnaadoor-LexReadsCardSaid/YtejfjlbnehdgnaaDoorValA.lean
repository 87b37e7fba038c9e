/- What the smallest functions of package value, and of its law package, answer: one sentence each, for every value. -/
import Derived.Test.YtejfjlbnehdgnaaDoorVal
namespace Go.Proofs.YtejfjlbnehdgnaaDoor
open Go.RowKit

end Go.Proofs.YtejfjlbnehdgnaaDoor
