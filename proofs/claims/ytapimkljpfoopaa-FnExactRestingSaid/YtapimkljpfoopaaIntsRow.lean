/- What laws over rings want of the row: slices of numbers and rings opened. -/
import Derived.Test.YtapimkljpfoopaaHold
import Derived.Test.YtapimkljpfoopaaBytesRow
import Derived.Lib.SmallJoins
namespace Go.Proofs.Ytapimkljpfoopaa
open Go.ChangeShapes Go.WideShapes Go.ChangeAt Go.RowKit Go.Joins

end Go.Proofs.Ytapimkljpfoopaa
