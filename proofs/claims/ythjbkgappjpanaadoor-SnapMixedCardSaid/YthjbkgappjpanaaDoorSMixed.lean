/- The walk of the statement on pieces of another text: it answers true. Condition: the table of the cyclic sum is laid. -/
import Derived.Test.YthjbkgappjpanaaDoorSMixE
import Derived.Test.YthjbkgappjpanaaDoorSMixN
import Derived.Test.YthjbkgappjpanaaDoorSMixS
import Derived.Test.YthjbkgappjpanaaDoorSMixA
namespace Go.Proofs.YthjbkgappjpanaaDoor
open Go.RowKit

theorem mixed_any (a b : ByteArray) (z : Int) (w : World) (hz : z ≤ 9223372036854775807) (hs : a.size ≤ 140737488355328) (hs' : b.size ≤ 140737488355328) (hT : Tab w) :
    Calls Tryd.prog 7 #[.string a, .string b, .int .i64 z] w fun e w' => e = .returned (.bool true) ∧ Below w.heap.size w w' := by
  by_cases he : errN a z ≠ 0 ∨ errN b z ≠ 0
  · exact mixed_err a b z w hz hs hs' hT he
  · have ha : errN a z = 0 := by omega
    have hb : errN b z = 0 := by omega
    by_cases h1 : totalN b.size z.toNat = totalN a.size z.toNat
    · by_cases h2 : sumN b = sumN a
      · exact mixed_like a b z w hz hs hs' hT ha hb h1 h2
      · exact mixed_sum a b z w hz hs hs' hT ha hb h1 h2
    · exact mixed_ne a b z w hz hs hs' hT ha hb h1
end Go.Proofs.YthjbkgappjpanaaDoor
