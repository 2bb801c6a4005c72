/- The statement on streams, its own walk. Condition: the bytes and the cuts lie in memory. -/
import Derived.Test.YtgifbjomaenlnaaWStrmA
import Derived.Test.YtgifbjomaenlnaaWStrmB
namespace Go.Proofs.Ytgifbjomaenlnaa
open Go.RowKit

theorem wstrm_any (A : Option Addr) (n c : Nat) (l : List Nat) (hn : n = l.length) (hnc : n ≤ c) (hz : c ≤ 140737488355328) (hl : ∀ x ∈ l, x < 256) (a1 : Option Addr) (m c1 : Nat) (zs : List Int) (hm : m = zs.length) (hzs : ∀ z ∈ zs, inI z) (w : World) (hA : Seg w A (u8s l)) (hZ : Seg w a1 (zs.map (Value.int .i64))) :
    Calls Try.prog 5 #[.slice A n c, .slice a1 m c1] w fun e w' => e = .returned (.bool true) ∧ Below w.heap.size w w' := by
  by_cases h3 : 3000 < n
  · exact wstrm_long A n c l hn h3 hnc hz hl a1 m c1 zs hm hzs w hA hZ
  · exact wstrm_short A n c l hn h3 hnc hz hl a1 m c1 zs hm hzs w hA hZ
end Go.Proofs.Ytgifbjomaenlnaa
