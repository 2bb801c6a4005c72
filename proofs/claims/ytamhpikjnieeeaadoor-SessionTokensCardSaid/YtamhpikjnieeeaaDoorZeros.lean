/- An append of noughts to a row of one's own. No condition. -/
import Derived.Test.YtamhpikjnieeeaaDoorSha
import Derived.Lib.AppendZeros
namespace Go.Proofs.YtamhpikjnieeeaaDoor
open Go.RowKit


end Go.Proofs.YtamhpikjnieeeaaDoor
