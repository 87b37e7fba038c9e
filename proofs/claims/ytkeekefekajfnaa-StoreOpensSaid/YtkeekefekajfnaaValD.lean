/- What Compare and Test answer. -/
import Derived.Test.YtkeekefekajfnaaValA
import Derived.Deep.RegionWith
namespace Go.Proofs.Ytkeekefekajfnaa
open Go.RowKit

/-- Which of two numbers goes ahead: -1, 0, 1. -/
def ordI (a b : Int) : Int := if a < b then -1 else if b < a then 1 else 0
/-- Which of two texts goes ahead: -1, 0, 1. -/
def ordS (a b : ByteArray) : Int := if Op.bytesLess a.toList b.toList then -1 else if a.toList = b.toList then 0 else 1
/-- The first of three numbers that is not nought. -/
def or3 (x y z : Int) : Int := if x != 0 then x else if y != 0 then y else z
def Val.cmp (x y : Val) : Int := or3 (ordI x.k y.k) (ordI x.n y.n) (ordS x.s y.s)

end Go.Proofs.Ytkeekefekajfnaa
