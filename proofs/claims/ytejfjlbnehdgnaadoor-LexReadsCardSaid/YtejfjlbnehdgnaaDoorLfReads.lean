/- LexReads: the law answers true, and its arguments read as they did, for every input, as the tied card says. Conditions: what the package-level variables hold when the call begins is what the program's own text lays (the card ties it); the form's own reach of an argument. -/
import Derived.Test.YtejfjlbnehdgnaaDoorLxReads
import Derived.Test.YtejfjlbnehdgnaaDoorLcF
namespace Go.Proofs.YtejfjlbnehdgnaaDoor

theorem lexReads_done : Rows.LexReadsCardSaid := lexReads_card lexC

#print axioms lexReads_done

end Go.Proofs.YtejfjlbnehdgnaaDoor
