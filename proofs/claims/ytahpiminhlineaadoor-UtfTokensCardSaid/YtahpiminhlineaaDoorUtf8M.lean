/- Plain maths of UTF-8: a valid text that is cut where a code point begins is valid. -/
import Derived.Lib.ValidLaws
namespace Go.Proofs.YtahpiminhlineaaDoor
open Go.Lib

/-- A code point is decoded alike where the text is cut behind it. -/
theorem decodeN_cut {n m b0 b1 b2 b3 c1 c2 c3 r w : Nat} (h : decodeN n b0 b1 b2 b3 = (r, w)) (he : ¬ (r = 65533 ∧ w = 1)) (_ : m ≤ n) (hw : w ≤ m)
    (h1 : 1 < m → c1 = b1) (h2 : 2 < m → c2 = b2) (h3 : 3 < m → c3 = b3) : decodeN m b0 c1 c2 c3 = (r, w) := by
  unfold decodeN at h
  split at h
  · rename_i a
    unfold decodeN
    rw [if_pos a]
    exact h
  · rename_i a
    split at h
    · rename_i b
      split at h
      · rename_i c
        obtain ⟨rfl, rfl⟩ := Prod.mk.inj h
        have := h1 (by omega); subst this
        unfold decodeN
        rw [if_neg a, if_pos ⟨b.1, by omega, b.2.2⟩, if_pos c]
      · obtain ⟨rfl, rfl⟩ := Prod.mk.inj h
        exact absurd ⟨rfl, rfl⟩ he
    · rename_i b
      split at h
      · rename_i c
        split at h
        · rename_i d
          obtain ⟨rfl, rfl⟩ := Prod.mk.inj h
          have := h1 (by omega); subst this
          have := h2 (by omega); subst this
          unfold decodeN
          rw [if_neg a, if_neg (by omega), if_pos ⟨c.1, ⟨by omega, c.2.1.2⟩, ⟨by omega, c.2.2.2⟩⟩, if_pos d]
        · obtain ⟨rfl, rfl⟩ := Prod.mk.inj h
          exact absurd ⟨rfl, rfl⟩ he
      · rename_i c
        split at h
        · rename_i d
          split at h
          · rename_i e
            obtain ⟨rfl, rfl⟩ := Prod.mk.inj h
            have := h1 (by omega); subst this
            have := h2 (by omega); subst this
            have := h3 (by omega); subst this
            unfold decodeN
            rw [if_neg a, if_neg (by omega), if_neg (by omega), if_pos ⟨d.1, ⟨by omega, d.2.1.2⟩, ⟨by omega, d.2.2.1.2⟩, ⟨by omega, d.2.2.2.2⟩⟩, if_pos e]
          · obtain ⟨rfl, rfl⟩ := Prod.mk.inj h
            exact absurd ⟨rfl, rfl⟩ he
        · obtain ⟨rfl, rfl⟩ := Prod.mk.inj h
          exact absurd ⟨rfl, rfl⟩ he
/-- A code point's bytes behind the first one are no beginnings; and they are there. -/
theorem decodeN_conts {n b0 b1 b2 b3 r w : Nat} (h : decodeN n b0 b1 b2 b3 = (r, w)) (hn : 1 ≤ n) : w ≤ n ∧ w ≤ 4 ∧ (1 < w → b1 / 64 = 2) ∧ (2 < w → b2 / 64 = 2) ∧ (3 < w → b3 / 64 = 2) := by
  unfold decodeN at h
  repeat' split at h
  all_goals (obtain ⟨rfl, rfl⟩ := Prod.mk.inj h; refine ⟨by omega, by omega, ?_, ?_, ?_⟩ <;> intro hh <;> first | (exfalso; omega) | omega)
theorem getD_take (l : List UInt8) (k i : Nat) (h : i < k) : (l.take k).getD i 0 = l.getD i 0 := getD_takeU l k i h
/-- Does a code point begin there, or nothing any more? -/
def StartAt (l : List UInt8) (k : Nat) : Prop := k = 0 ∨ l.length ≤ k ∨ (l.getD k 0).toNat / 64 ≠ 2
theorem validD_take : ∀ (f : Nat) (l : List UInt8) (k : Nat), l.length ≤ f → validD l = true → StartAt l k → validD (l.take k) = true
  | 0, l, k, hf, hv, _ => by
    have : l = [] := List.eq_nil_of_length_eq_zero (by omega)
    subst this
    simpa using hv
  | f + 1, l, k, hf, hv, hs => by
    by_cases hk : l.length ≤ k
    · rw [List.take_of_length_le hk]; exact hv
    by_cases h0 : k = 0
    · subst h0; rfl
    have hs' : (l.getD k 0).toNat / 64 ≠ 2 := by
      rcases hs with h | h | h
      · exact absurd h h0
      · exact absurd h hk
      · exact h
    have hne : l ≠ [] := by rintro rfl; simp at hk
    have hne' : l.take k ≠ [] := by
      intro e
      have := congrArg List.length e
      rw [List.length_take, List.length_nil] at this
      omega
    have hlen : (l.take k).length = k := by rw [List.length_take]; omega
    rw [validD_step l hne] at hv
    split at hv
    · cases hv
    · rename_i he
      obtain ⟨r, w, hrw⟩ : ∃ r w, decodeL l = (r, w) := ⟨_, _, rfl⟩
      rw [hrw] at he hv
      have hN := hrw
      rw [decodeL_N] at hN
      obtain ⟨q0, q1, q2, q3, q4⟩ := decodeN_conts hN (by omega)
      have hw1 := decodeL_width l
      rw [hrw] at hw1
      have hwk : w ≤ k := by
        by_cases hlt : k < w
        · exfalso
          have : k = 1 ∨ k = 2 ∨ k = 3 := by omega
          rcases this with rfl | rfl | rfl
          · exact hs' (q2 hlt)
          · exact hs' (q3 hlt)
          · exact hs' (q4 hlt)
        · omega
      have hT : decodeL (l.take k) = (r, w) := by
        rw [decodeL_N, hlen, getD_take _ _ _ (by omega : 0 < k)]
        exact decodeN_cut hN he (by omega) hwk (fun h => by rw [getD_take _ _ _ h]) (fun h => by rw [getD_take _ _ _ h]) (fun h => by rw [getD_take _ _ _ h])
      rw [validD_step _ hne', hT, if_neg he, List.drop_take]
      refine validD_take f (l.drop w) (k - w) (by rw [List.length_drop]; simp at hw1; omega) hv ?_
      right; right
      rw [getD_dropU, show w + (k - w) = k by omega]
      exact hs'
end Go.Proofs.YtahpiminhlineaaDoor
