/- What the smallest functions of package value, and of its law package, answer: one sentence each, for every value. -/
import Derived.Test.YtflbeccfdbjbhaaVal
namespace Go.Proofs.Ytflbeccfdbjbhaa
open Go.RowKit

end Go.Proofs.Ytflbeccfdbjbhaa
