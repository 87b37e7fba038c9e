/- LexCase: the law answers true, and its arguments read as they did, for every input, as the tied card says. Conditions: what the package-level variables hold when the call begins is what the program's own text lays (the card ties it); the form's own reach of an argument. -/
import Derived.Test.YtejfjlbnehdgnaaDoorLxCase
import Derived.Test.YtejfjlbnehdgnaaDoorLcF
namespace Go.Proofs.YtejfjlbnehdgnaaDoor

theorem lexCase_done : Rows.LexCaseCardSaid := lexCase_card lexC

#print axioms lexCase_done

end Go.Proofs.YtejfjlbnehdgnaaDoor
