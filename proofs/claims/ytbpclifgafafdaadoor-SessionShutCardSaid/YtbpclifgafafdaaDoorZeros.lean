/- An append of noughts to a row of one's own. No condition. -/
import Derived.Test.YtbpclifgafafdaaDoorSha
import Derived.Lib.AppendZeros
namespace Go.Proofs.YtbpclifgafafdaaDoor
open Go.RowKit


end Go.Proofs.YtbpclifgafafdaaDoor
