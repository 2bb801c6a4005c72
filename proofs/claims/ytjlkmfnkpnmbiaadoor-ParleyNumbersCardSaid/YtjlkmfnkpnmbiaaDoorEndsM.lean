/- Least and greatest of a list of words in the order. No condition. -/
import Derived.Test.YtjlkmfnkpnmbiaaDoorMath
namespace Go.Proofs.YtjlkmfnkpnmbiaaDoor

def minGo (a : Nat) (l : List Nat) : Nat := l.foldl (fun m x => if cmpN x m < 0 then x else m) a
def maxGo (a : Nat) (l : List Nat) : Nat := l.foldl (fun m x => if 0 < cmpN x m then x else m) a
def minF (l : List Nat) : Nat := match l with | [] => 0 | a :: t => minGo a t
def maxF (l : List Nat) : Nat := match l with | [] => 0 | a :: t => maxGo a t
def anyEq (l : List Nat) (x : Nat) : Bool := l.any fun y => cmpN y x == 0
theorem cmp_neg (a b : Nat) : cmpN a b < 0 ↔ rankN a < rankN b := by
  unfold cmpN
  by_cases c1 : rankN a < rankN b
  · rw [if_pos c1]; omega
  · rw [if_neg c1]
    by_cases c2 : rankN b < rankN a
    · rw [if_pos c2]; omega
    · rw [if_neg c2]; omega
theorem cmp_pos (a b : Nat) : 0 < cmpN a b ↔ rankN b < rankN a := by
  unfold cmpN
  by_cases c1 : rankN a < rankN b
  · rw [if_pos c1]; omega
  · rw [if_neg c1]
    by_cases c2 : rankN b < rankN a
    · rw [if_pos c2]; omega
    · rw [if_neg c2]; omega
theorem minGo_spec (l : List Nat) : ∀ a, (minGo a l = a ∨ minGo a l ∈ l) ∧ rankN (minGo a l) ≤ rankN a ∧ ∀ x ∈ l, rankN (minGo a l) ≤ rankN x := by
  induction l with
  | nil => intro a; exact ⟨.inl rfl, Nat.le_refl _, by simp⟩
  | cons y l ih =>
    intro a
    have e : minGo a (y :: l) = minGo (if cmpN y a < 0 then y else a) l := rfl
    rw [e]
    by_cases h : cmpN y a < 0
    · rw [if_pos h]
      obtain ⟨h1, h2, h3⟩ := ih y
      have hr := (cmp_neg y a).1 h
      refine ⟨.inr ?_, by omega, ?_⟩
      · rcases h1 with h1 | h1
        · rw [h1]; simp
        · simp [h1]
      · intro x hx
        rcases List.mem_cons.1 hx with rfl | hx
        · exact h2
        · exact h3 x hx
    · rw [if_neg h]
      obtain ⟨h1, h2, h3⟩ := ih a
      have hr : ¬ rankN y < rankN a := fun hh => h ((cmp_neg y a).2 hh)
      refine ⟨?_, h2, ?_⟩
      · rcases h1 with h1 | h1
        · exact .inl h1
        · exact .inr (by simp [h1])
      · intro x hx
        rcases List.mem_cons.1 hx with rfl | hx
        · omega
        · exact h3 x hx
theorem maxGo_spec (l : List Nat) : ∀ a, (maxGo a l = a ∨ maxGo a l ∈ l) ∧ rankN a ≤ rankN (maxGo a l) ∧ ∀ x ∈ l, rankN x ≤ rankN (maxGo a l) := by
  induction l with
  | nil => intro a; exact ⟨.inl rfl, Nat.le_refl _, by simp⟩
  | cons y l ih =>
    intro a
    have e : maxGo a (y :: l) = maxGo (if 0 < cmpN y a then y else a) l := rfl
    rw [e]
    by_cases h : 0 < cmpN y a
    · rw [if_pos h]
      obtain ⟨h1, h2, h3⟩ := ih y
      have hr := (cmp_pos y a).1 h
      refine ⟨.inr ?_, by omega, ?_⟩
      · rcases h1 with h1 | h1
        · rw [h1]; simp
        · simp [h1]
      · intro x hx
        rcases List.mem_cons.1 hx with rfl | hx
        · exact h2
        · exact h3 x hx
    · rw [if_neg h]
      obtain ⟨h1, h2, h3⟩ := ih a
      have hr : ¬ rankN a < rankN y := fun hh => h ((cmp_pos y a).2 hh)
      refine ⟨?_, h2, ?_⟩
      · rcases h1 with h1 | h1
        · exact .inl h1
        · exact .inr (by simp [h1])
      · intro x hx
        rcases List.mem_cons.1 hx with rfl | hx
        · omega
        · exact h3 x hx
theorem minF_spec (l : List Nat) (hl : l ≠ []) : minF l ∈ l ∧ ∀ x ∈ l, rankN (minF l) ≤ rankN x := by
  match l, hl with
  | a :: t, _ =>
    obtain ⟨h1, h2, h3⟩ := minGo_spec t a
    refine ⟨?_, fun x hx => ?_⟩
    · show minGo a t ∈ a :: t
      rcases h1 with h1 | h1
      · rw [h1]; simp
      · simp [h1]
    · rcases List.mem_cons.1 hx with rfl | hx
      · exact h2
      · exact h3 x hx
theorem maxF_spec (l : List Nat) (hl : l ≠ []) : maxF l ∈ l ∧ ∀ x ∈ l, rankN x ≤ rankN (maxF l) := by
  match l, hl with
  | a :: t, _ =>
    obtain ⟨h1, h2, h3⟩ := maxGo_spec t a
    refine ⟨?_, fun x hx => ?_⟩
    · show maxGo a t ∈ a :: t
      rcases h1 with h1 | h1
      · rw [h1]; simp
      · simp [h1]
    · rcases List.mem_cons.1 hx with rfl | hx
      · exact h2
      · exact h3 x hx
theorem anyEq_mem (l : List Nat) (x : Nat) (h : x ∈ l) : anyEq l x = true := by
  unfold anyEq
  rw [List.any_eq_true]
  exact ⟨x, h, by unfold cmpN; simp⟩
theorem anyEq_snoc (l : List Nat) (y x : Nat) : anyEq (l ++ [y]) x = (anyEq l x || (cmpN y x == 0)) := by simp [anyEq]
end Go.Proofs.YtjlkmfnkpnmbiaaDoor
