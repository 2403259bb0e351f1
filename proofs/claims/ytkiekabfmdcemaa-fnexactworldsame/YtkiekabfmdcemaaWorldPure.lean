/- Whether two configurations are one, as plain data. -/
import Derived.Test.YtkiekabfmdcemaaSameProc
import Derived.Test.YtkiekabfmdcemaaWorldRec
namespace Go.Proofs.Ytkiekabfmdcemaa
open Go.ChangeShapes Go.WideShapes Go.ChangeAt Go.RowKit

def worldB (x y : WorldP) : Bool := procsB x.procs y.procs && decide (x.cells = y.cells) && decide (x.rooms = y.rooms) && decide (x.signs = y.signs) && decide (x.said = y.said)
end Go.Proofs.Ytkiekabfmdcemaa
