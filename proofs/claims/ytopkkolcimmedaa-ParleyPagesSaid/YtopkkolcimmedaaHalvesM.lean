/- The sizes of a node's halves, as plain maths. No condition. -/
import Derived.Test.YtopkkolcimmedaaHalve
namespace Go.Proofs.Ytopkkolcimmedaa
open Go.RowKit

theorem cut_getD {l : List ByteArray} (lo hi i : Nat) (h : lo + i < hi) (hh : hi ≤ l.length) : ((l.take hi).drop lo).getD i ByteArray.empty = l.getD (lo + i) ByteArray.empty := by
  simp [List.getD, List.getElem?_drop, List.getElem?_take_of_lt h]
/-- A cut's key adds what it added in the node. -/
theorem keyN_cut {lf : Bool} {ks vs : List ByteArray} {cs : List Int} (hv : lf = true → vs.length = ks.length) (lo hi i : Nat) (h : lo + i < hi) (hh : hi ≤ ks.length) :
    keyN (partM ⟨lf, ks, vs, cs⟩ lo hi) i = keyN ⟨lf, ks, vs, cs⟩ (lo + i) := by
  cases lf
  · show 1 + (((ks.take hi).drop lo).getD i ByteArray.empty).size + 2 = 1 + (ks.getD (lo + i) ByteArray.empty).size + 2
    rw [cut_getD lo hi i h hh]
  · have hvl := hv rfl
    show 1 + (((ks.take hi).drop lo).getD i ByteArray.empty).size + (if i < ((vs.take hi).drop lo).length then 1 + (((vs.take hi).drop lo).getD i ByteArray.empty).size else 0) = 1 + (ks.getD (lo + i) ByteArray.empty).size + (if lo + i < vs.length then 1 + (vs.getD (lo + i) ByteArray.empty).size else 0)
    rw [cut_getD lo hi i h hh, cut_getD lo hi i h (by omega), cut_length vs lo hi (by omega), if_pos (by omega), if_pos (by omega)]
theorem sumN_cut {lf : Bool} {ks vs : List ByteArray} {cs : List Int} (hv : lf = true → vs.length = ks.length) (lo hi : Nat) (hh : hi ≤ ks.length) : ∀ k, lo + k ≤ hi → sumN ⟨lf, ks, vs, cs⟩ (lo + k) = sumN ⟨lf, ks, vs, cs⟩ lo + sumN (partM ⟨lf, ks, vs, cs⟩ lo hi) k
  | 0, _ => by rw [sumN]; rfl
  | k + 1, h => by
    rw [← Nat.add_assoc, sumN, sumN, sumN_cut hv lo hi hh k (by omega), keyN_cut hv lo hi k (by omega) hh]
    omega
theorem sizeN_cut {lf : Bool} {ks vs : List ByteArray} {cs : List Int} (hv : lf = true → vs.length = ks.length) (lo hi : Nat) (hl : lo ≤ hi) (hh : hi ≤ ks.length) :
    sizeN (partM ⟨lf, ks, vs, cs⟩ lo hi) = headN lf + (sumN ⟨lf, ks, vs, cs⟩ hi - sumN ⟨lf, ks, vs, cs⟩ lo) := by
  have h1 := sumN_cut (cs := cs) hv lo hi hh (hi - lo) (by omega)
  rw [show lo + (hi - lo) = hi by omega] at h1
  show headN lf + sumN (partM ⟨lf, ks, vs, cs⟩ lo hi) ((ks.take hi).drop lo).length = _
  rw [cut_length ks lo hi hh]
  omega
/-- The greater one of both halves' sizes is greatN. -/
theorem great_cut {lf : Bool} {ks vs : List ByteArray} {cs : List Int} (hv : lf = true → vs.length = ks.length) (k : Nat) (hk : k + betN lf ≤ ks.length) :
    max (sizeN (partM ⟨lf, ks, vs, cs⟩ 0 k)) (sizeN (partM ⟨lf, ks, vs, cs⟩ (k + betN lf) ks.length)) = greatN ⟨lf, ks, vs, cs⟩ k := by
  rw [sizeN_cut hv 0 k (by omega) (by omega), sizeN_cut hv (k + betN lf) ks.length hk (Nat.le_refl _)]
  unfold greatN
  have h0 : sumN ⟨lf, ks, vs, cs⟩ 0 = 0 := rfl
  rw [h0, Nat.sub_zero]
  have hm := sumN_mono (n := ⟨lf, ks, vs, cs⟩) hk
  cases lf
  · have e : sumN ⟨false, ks, vs, cs⟩ (k + betN false) = sumN ⟨false, ks, vs, cs⟩ k + keyN ⟨false, ks, vs, cs⟩ k := rfl
    rw [e] at hm ⊢
    simp only [Bool.false_eq_true, if_false]
    congr 1
    omega
  · show max _ (headN true + (sumN ⟨true, ks, vs, cs⟩ ks.length - sumN ⟨true, ks, vs, cs⟩ k)) = max _ _
    simp only [if_true, Nat.sub_zero]
end Go.Proofs.Ytopkkolcimmedaa
