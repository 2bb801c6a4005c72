/- Where a node is cut, as plain maths. No condition. -/
import Derived.Test.YtcnfnfnmpifahaaSizeM
namespace Go.Proofs.Ytcnfnfnmpifahaa
open Go.RowKit

def betN (lf : Bool) : Nat := if lf then 0 else 1
/-- The greater one of both halves' sizes, cut at k. -/
def greatN (n : NodeM) (k : Nat) : Nat :=
  max (headN n.leaf + sumN n k) (headN n.leaf + (sumN n n.keys.length - sumN n k) - (if n.leaf then 0 else keyN n k))
/-- The best cut among 1 .. j, and its greater size; (0, 0): none was looked at. -/
def bestTo (n : NodeM) : Nat → Nat × Nat
  | 0 => (0, 0)
  | j + 1 => if (bestTo n j).1 = 0 ∨ greatN n (j + 1) < (bestTo n j).2 then (j + 1, greatN n (j + 1)) else bestTo n j
def limN (n : NodeM) : Nat := n.keys.length - betN n.leaf - 1
def midN (n : NodeM) : Nat := (bestTo n (limN n)).1
theorem bestTo_le (n : NodeM) : ∀ j, (bestTo n j).1 ≤ j
  | 0 => Nat.le_refl _
  | j + 1 => by
    rw [bestTo]
    split
    · exact Nat.le_refl _
    · exact Nat.le_succ_of_le (bestTo_le n j)
theorem bestTo_pos (n : NodeM) : ∀ j, 0 < j → 0 < (bestTo n j).1
  | j + 1, _ => by
    rw [bestTo]
    split
    · exact Nat.succ_pos _
    · rename_i h
      have : ¬ (bestTo n j).1 = 0 := fun e => h (Or.inl e)
      omega
theorem bestTo_great (n : NodeM) (B : Nat) (hB : ∀ k, greatN n k ≤ B) : ∀ j, (bestTo n j).2 ≤ B
  | 0 => Nat.zero_le _
  | j + 1 => by
    rw [bestTo]
    split
    · exact hB _
    · exact bestTo_great n B hB j
theorem great_le {n : NodeM} (k : Nat) (hk : k ≤ n.keys.length) : greatN n k ≤ sizeN n := by
  have h := sumN_mono (n := n) hk
  unfold greatN sizeN
  omega
theorem bestTo_size (n : NodeM) : ∀ j, j ≤ n.keys.length → (bestTo n j).2 ≤ sizeN n
  | 0, _ => Nat.zero_le _
  | j + 1, h => by
    rw [bestTo]
    split
    · exact great_le _ h
    · exact bestTo_size n j (by omega)
end Go.Proofs.Ytcnfnfnmpifahaa
