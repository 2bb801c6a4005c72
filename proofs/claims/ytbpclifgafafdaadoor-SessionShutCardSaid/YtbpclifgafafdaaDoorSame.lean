/- 'Same' tells whether two lists of bytes are one. Condition: both lists lie in memory. -/
import Derived.Test.YtbpclifgafafdaaDoorProg
import Derived.Test.YtbpclifgafafdaaDoorMem
import Derived.WalkLawsBesides
import Derived.BigQuiet
import Derived.Deep.QuietTactic
namespace Go.Proofs.YtbpclifgafafdaaDoor
open Go.RowKit

theorem take_eq_step {xs ys : List Int} {k : Nat} (hk : k < xs.length) (hk' : k < ys.length) (h : xs.take k = ys.take k) (he : xs[k] = ys[k]) : xs.take (k + 1) = ys.take (k + 1) := by
  rw [List.take_succ_eq_append_getElem hk, List.take_succ_eq_append_getElem hk', h, he]

end Go.Proofs.YtbpclifgafafdaaDoor
