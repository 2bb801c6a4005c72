/- Both halves of a node in form are in form, and can stand in a block if the node is not too great, as plain maths. No condition. -/
import Derived.Test.YtopkkolcimmedaaHalvesM
namespace Go.Proofs.Ytopkkolcimmedaa
open Go.RowKit

theorem keysOk_cut {ks : List ByteArray} (h : keysOk ks = true) (lo hi : Nat) (hh : hi ≤ ks.length) : keysOk ((ks.take hi).drop lo) = true := by
  refine keysOk_all fun j hj => ?_
  rw [cut_length ks lo hi hh] at hj
  have h1 := keysOk_at h (j := lo + j) (by omega)
  unfold keyOk at h1 ⊢
  rw [cut_getD lo hi j (by omega) hh]
  simp only [Bool.and_eq_true] at h1 ⊢
  refine ⟨h1.1, ?_⟩
  rcases Nat.eq_zero_or_pos j with rfl | hp
  · rfl
  · rw [cut_getD lo hi (j - 1) (by omega) hh, show lo + (j - 1) = lo + j - 1 by omega]
    have h2 := h1.2
    rcases Bool.or_eq_true_iff.1 h2 with h3 | h3
    · have : lo + j = 0 := by simpa using h3
      omega
    · rw [h3]; simp
theorem all_cut {α : Type} {p : α → Bool} {l : List α} (h : l.all p = true) (lo hi : Nat) : ((l.take hi).drop lo).all p = true := by
  rw [List.all_eq_true] at h ⊢
  exact fun x hx => h x (List.mem_of_mem_take (List.mem_of_mem_drop hx))
theorem form_cut {lf : Bool} {ks vs : List ByteArray} {cs : List Int} (h : formB ⟨lf, ks, vs, cs⟩ = true) (lo hi : Nat) (hl : lo < hi) (hh : hi ≤ ks.length) : formB (partM ⟨lf, ks, vs, cs⟩ lo hi) = true := by
  have hk := form_keys h
  have hr := form_rest h
  unfold formB
  rw [Bool.and_eq_true]
  refine ⟨keysOk_cut hk lo hi hh, ?_⟩
  cases lf
  · obtain ⟨e1, e2, e3⟩ := form_branch_eq h
    unfold restOk at hr
    simp only [Bool.false_eq_true, if_false, Bool.and_eq_true] at hr
    show restOk ⟨false, (ks.take hi).drop lo, [], (cs.take (hi + 1)).drop lo⟩ = true
    rw [rest_branch (all_cut hr.2 lo (hi + 1)), cut_length ks lo hi hh, cut_length cs lo (hi + 1) (by omega)]
    simp only [Bool.and_eq_true, decide_eq_true_eq]
    exact ⟨⟨by omega, by omega⟩, rfl⟩
  · obtain ⟨e1, e2⟩ := form_leaf_eq h
    unfold restOk at hr
    simp only [if_true, Bool.and_eq_true] at hr
    show restOk ⟨true, (ks.take hi).drop lo, (vs.take hi).drop lo, []⟩ = true
    rw [rest_leaf (all_cut hr.2 lo hi), cut_length ks lo hi hh, cut_length vs lo hi (by omega)]
    simp only [Bool.and_eq_true, decide_eq_true_eq]
    exact ⟨trivial, rfl⟩
/-- The best cut is as good as any. -/
theorem best_min (n : NodeM) : ∀ j k, 1 ≤ k → k ≤ j → (bestTo n j).2 ≤ greatN n k
  | 0, k, h1, h2 => by omega
  | j + 1, k, h1, h2 => by
    rw [bestTo]
    by_cases e : k = j + 1
    · subst e
      split
      · exact Nat.le_refl _
      · rename_i h
        have : ¬ greatN n (j + 1) < (bestTo n j).2 := fun hh => h (Or.inr hh)
        omega
    · have ih := best_min n j k h1 (by omega)
      split
      · rename_i h
        rcases h with h | h
        · have := bestTo_pos n j (by omega)
          omega
        · simp only; omega
      · exact ih
theorem best_great (n : NodeM) : ∀ j, 1 ≤ j → (bestTo n j).2 = greatN n (bestTo n j).1
  | j + 1, _ => by
    rw [bestTo]
    split
    · rfl
    · rename_i h
      have h0 : ¬ (bestTo n j).1 = 0 := fun e => h (Or.inl e)
      have := bestTo_le n j
      exact best_great n j (by omega)
theorem least_of {p : Nat → Prop} (hd : ∀ k, p k ∨ ¬ p k) : ∀ n, p n → ∃ k, k ≤ n ∧ p k ∧ ∀ j, j < k → ¬ p j := by
  intro n
  induction n using Nat.strongRecOn with
  | _ n ih =>
    intro hn
    by_cases h : ∀ j, j < n → ¬ p j
    · exact ⟨n, Nat.le_refl _, hn, h⟩
    · obtain ⟨j, hj⟩ := Classical.not_forall.1 h
      obtain ⟨h1, h2⟩ := Classical.not_imp.1 hj
      obtain ⟨k, a, b, c⟩ := ih j h1 (by rcases hd j with h | h; exact h; exact absurd h h2)
      exact ⟨k, by omega, b, c⟩
/-- There is a cut with which both halves can stand in a block. -/
theorem cut_small {lf : Bool} {ks vs : List ByteArray} {cs : List Int} (h : formB ⟨lf, ks, vs, cs⟩ = true) (hn : 2 + betN lf ≤ ks.length) (hs : sizeN ⟨lf, ks, vs, cs⟩ ≤ 378) : ∃ k, 1 ≤ k ∧ k ≤ limN ⟨lf, ks, vs, cs⟩ ∧ greatN ⟨lf, ks, vs, cs⟩ k ≤ 256 := by
  obtain ⟨n, hN⟩ : ∃ n : NodeM, n = ⟨lf, ks, vs, cs⟩ := ⟨_, rfl⟩
  have hlen : n.keys.length = ks.length := by rw [hN]
  have hlf : n.leaf = lf := by rw [hN]
  rw [← hN] at h hs ⊢
  have hk := fun i => form_key_le h i
  have hS : headN n.leaf + sumN n n.keys.length ≤ 378 := hs
  have hlim : limN n = ks.length - betN lf - 1 := by unfold limN; rw [hlen, hlf]
  have ht : ∀ k, sumN n (k + 1) = sumN n k + keyN n k := fun k => rfl
  have hmono : ∀ a b, a ≤ b → sumN n a ≤ sumN n b := fun a b hab => sumN_mono hab
  have h1 : sumN n 1 ≤ 123 := by have := hk 0; have h2 := ht 0; have e0 : sumN n 0 = 0 := rfl; rw [Nat.zero_add] at h2; omega
  cases lf
  · have e : headN n.leaf = 4 := by rw [hlf]; rfl
    have eb : betN false = 1 := rfl
    rw [eb] at hn hlim
    rw [e] at hS
    obtain ⟨k, a, b, c⟩ := least_of (p := fun k => 1 ≤ k ∧ sumN n n.keys.length ≤ 252 + sumN n (k + 1)) (fun k => by by_cases h : 1 ≤ k ∧ sumN n n.keys.length ≤ 252 + sumN n (k + 1); exact Or.inl h; exact Or.inr h) (limN n) (by
      refine ⟨by omega, ?_⟩
      have h2 := ht (ks.length - 1)
      have h3 := hk (ks.length - 1)
      rw [hlim, hlen, show ks.length - 1 - 1 + 1 = ks.length - 1 by omega]
      rw [show ks.length - 1 + 1 = ks.length by omega] at h2
      omega)
    refine ⟨k, b.1, a, ?_⟩
    have h4 : sumN n k ≤ 252 := by
      by_cases e1 : k = 1
      · rw [e1]; omega
      · have h5 := c (k - 1) (by omega)
        rw [show k - 1 + 1 = k by omega] at h5
        have h6 : ¬ sumN n n.keys.length ≤ 252 + sumN n k := fun hh => h5 ⟨by omega, hh⟩
        omega
    unfold greatN
    rw [e, hlf]
    have h7 := ht k
    have h8 := b.2
    have h9 := hmono k n.keys.length (by omega)
    simp only [Bool.false_eq_true, if_false]
    omega
  · have e : headN n.leaf = 2 := by rw [hlf]; rfl
    have eb : betN true = 0 := rfl
    rw [eb] at hn hlim
    rw [e] at hS
    obtain ⟨k, a, b, c⟩ := least_of (p := fun k => 1 ≤ k ∧ sumN n n.keys.length ≤ 254 + sumN n k) (fun k => by by_cases h : 1 ≤ k ∧ sumN n n.keys.length ≤ 254 + sumN n k; exact Or.inl h; exact Or.inr h) (limN n) (by
      refine ⟨by omega, ?_⟩
      have h2 := ht (ks.length - 1)
      have h3 := hk (ks.length - 1)
      rw [hlim, hlen, show ks.length - 0 - 1 = ks.length - 1 by omega]
      rw [show ks.length - 1 + 1 = ks.length by omega] at h2
      omega)
    refine ⟨k, b.1, a, ?_⟩
    have h4 : sumN n k ≤ 254 := by
      by_cases e1 : k = 1
      · rw [e1]; omega
      · have h5 := c (k - 1) (by omega)
        have h6 : ¬ sumN n n.keys.length ≤ 254 + sumN n (k - 1) := fun hh => h5 ⟨by omega, hh⟩
        have h7 := ht (k - 1)
        have h8 := hk (k - 1)
        rw [show k - 1 + 1 = k by omega] at h7
        omega
    unfold greatN
    rw [e, hlf]
    have h8 := b.2
    have h9 := hmono k n.keys.length (by omega)
    simp only [if_true]
    omega
/-- Both halves can stand in a block. -/
theorem halves_small {lf : Bool} {ks vs : List ByteArray} {cs : List Int} (h : formB ⟨lf, ks, vs, cs⟩ = true) (hn : 2 + betN lf ≤ ks.length) (hs : sizeN ⟨lf, ks, vs, cs⟩ ≤ 378) :
    sizeN (partM ⟨lf, ks, vs, cs⟩ 0 (midN ⟨lf, ks, vs, cs⟩)) ≤ 256 ∧ sizeN (partM ⟨lf, ks, vs, cs⟩ (midN ⟨lf, ks, vs, cs⟩ + betN lf) ks.length) ≤ 256 := by
  obtain ⟨k, h1, h2, h3⟩ := cut_small h hn hs
  have h4 := best_min ⟨lf, ks, vs, cs⟩ (limN ⟨lf, ks, vs, cs⟩) k h1 h2
  have h5 := best_great ⟨lf, ks, vs, cs⟩ (limN ⟨lf, ks, vs, cs⟩) (by omega)
  have h6 := bestTo_le ⟨lf, ks, vs, cs⟩ (limN ⟨lf, ks, vs, cs⟩)
  have h7 : limN ⟨lf, ks, vs, cs⟩ = ks.length - betN lf - 1 := rfl
  have hv : lf = true → vs.length = ks.length := by
    intro e
    subst e
    exact (form_leaf_eq h).1
  have h8 := great_cut (cs := cs) hv (midN ⟨lf, ks, vs, cs⟩) (by
    show (bestTo ⟨lf, ks, vs, cs⟩ (limN ⟨lf, ks, vs, cs⟩)).1 + betN lf ≤ ks.length
    omega)
  have h9 : greatN ⟨lf, ks, vs, cs⟩ (midN ⟨lf, ks, vs, cs⟩) ≤ 256 := by
    unfold midN
    rw [← h5]
    omega
  rw [← h8] at h9
  omega
end Go.Proofs.Ytopkkolcimmedaa
