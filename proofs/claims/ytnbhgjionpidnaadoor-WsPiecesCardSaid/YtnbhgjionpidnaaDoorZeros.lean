/- An append of noughts to a row of one's own. No condition. -/
import Derived.Test.YtnbhgjionpidnaaDoorSha
import Derived.Lib.AppendZeros
namespace Go.Proofs.YtnbhgjionpidnaaDoor
open Go.RowKit


end Go.Proofs.YtnbhgjionpidnaaDoor
