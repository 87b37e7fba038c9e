/- What the smallest functions of package value, and of its law package, answer: one sentence each, for every value. -/
import Derived.Test.YtkgdbpfpjpiejaaVal
namespace Go.Proofs.Ytkgdbpfpjpiejaa
open Go.RowKit

end Go.Proofs.Ytkgdbpfpjpiejaa
