/- The sizes of a node, as plain maths. No condition. -/
import Derived.Test.YtcnfnfnmpifahaaFormM
namespace Go.Proofs.Ytcnfnfnmpifahaa
open Go.RowKit

/-- What a node without keys takes; what key number i adds; what the first k keys add; the whole. -/
def headN (lf : Bool) : Nat := if lf then 2 else 4
def keyN (n : NodeM) (i : Nat) : Nat :=
  1 + (n.keys.getD i ByteArray.empty).size + (if n.leaf then (if i < n.vals.length then 1 + (n.vals.getD i ByteArray.empty).size else 0) else 2)
def sumN (n : NodeM) : Nat → Nat
  | 0 => 0
  | k + 1 => sumN n k + keyN n k
def sizeN (n : NodeM) : Nat := headN n.leaf + sumN n n.keys.length

theorem keyN_le {n : NodeM} {B V : Nat} (hk : ∀ s ∈ n.keys, s.size ≤ B) (hv : ∀ s ∈ n.vals, s.size ≤ V) (i : Nat) : keyN n i ≤ B + V + 3 := by
  have e : ByteArray.empty.size = 0 := rfl
  have h1 : (n.keys.getD i ByteArray.empty).size ≤ B := by
    by_cases h : i < n.keys.length
    · rw [getD_at h]; exact hk _ (List.getElem_mem h)
    · simp [List.getD, h]
  have h2 : (n.vals.getD i ByteArray.empty).size ≤ V := by
    by_cases h : i < n.vals.length
    · rw [getD_at h]; exact hv _ (List.getElem_mem h)
    · simp [List.getD, h]
  unfold keyN
  split
  · split <;> omega
  · omega
theorem sumN_le {n : NodeM} {B : Nat} (h : ∀ i, keyN n i ≤ B) : ∀ k, sumN n k ≤ k * B
  | 0 => by simp [sumN]
  | k + 1 => by
    have := sumN_le h k
    have := h k
    rw [sumN, Nat.add_mul]
    omega
theorem keyOk_size {ks : List ByteArray} (h : keysOk ks = true) : ∀ s ∈ ks, 1 ≤ s.size ∧ s.size ≤ 20 := by
  intro s hs
  obtain ⟨j, hj, rfl⟩ := List.getElem_of_mem hs
  have := keysOk_at h hj
  unfold keyOk at this
  rw [getD_at hj] at this
  simp only [Bool.and_eq_true, decide_eq_true_eq] at this
  exact this.1
theorem form_vals {n : NodeM} (h : formB n = true) : ∀ s ∈ n.vals, s.size ≤ 100 := by
  have h2 := form_rest h
  unfold restOk at h2
  intro s hs
  split at h2
  · simp only [Bool.and_eq_true, List.all_eq_true] at h2
    have := h2.2 s hs
    unfold valOk at this
    simpa using this
  · simp only [Bool.and_eq_true, decide_eq_true_eq] at h2
    have := List.eq_nil_of_length_eq_zero h2.1.2
    rw [this] at hs
    simp at hs
theorem form_key_le {n : NodeM} (h : formB n = true) (i : Nat) : keyN n i ≤ 123 :=
  keyN_le (B := 20) (V := 100) (fun s hs => (keyOk_size (form_keys h) s hs).2) (form_vals h) i
theorem form_sum_le {n : NodeM} (h : formB n = true) (k : Nat) : sumN n k ≤ k * 123 := sumN_le (form_key_le h) k
theorem sumN_mono {n : NodeM} {a b : Nat} (h : a ≤ b) : sumN n a ≤ sumN n b := by
  induction b with
  | zero => rw [Nat.le_zero.1 h]; exact Nat.le_refl _
  | succ b ih =>
    by_cases e : a = b + 1
    · subst e; exact Nat.le_refl _
    · have := ih (by omega)
      rw [sumN]
      omega
theorem form_leaf_eq {ks vs : List ByteArray} {cs : List Int} (h : formB ⟨true, ks, vs, cs⟩ = true) : vs.length = ks.length ∧ cs.length = 0 := by
  have h2 := form_rest h
  unfold restOk at h2
  simp only [if_true, Bool.and_eq_true, decide_eq_true_eq] at h2
  exact h2.1
theorem form_branch_eq {ks vs : List ByteArray} {cs : List Int} (h : formB ⟨false, ks, vs, cs⟩ = true) : 0 < ks.length ∧ cs.length = ks.length + 1 ∧ vs.length = 0 := by
  have h2 := form_rest h
  unfold restOk at h2
  simp only [Bool.false_eq_true, if_false, Bool.and_eq_true, decide_eq_true_eq] at h2
  exact ⟨h2.1.1.1, h2.1.1.2, h2.1.2⟩
end Go.Proofs.Ytcnfnfnmpifahaa
