/- Plain maths of putting numbers in order: two orderings of one list have the same ranks. -/
import Derived.Test.YtjlkmfnkpnmbiaaDoorEndsM
namespace Go.Proofs.YtjlkmfnkpnmbiaaDoor

/-- A number put in its place. -/
def insN (u : Nat) : List Nat → List Nat
  | [] => [u]
  | v :: t => if cmpN u v < 0 then u :: v :: t else v :: insN u t
/-- The numbers put in their places one by one. -/
def sortN (l : List Nat) : List Nat := l.foldl (fun acc u => insN u acc) []
def SortedN (l : List Nat) : Prop := l.Pairwise fun a b => rankN a ≤ rankN b
theorem insN_perm (u : Nat) : ∀ l, (insN u l).Perm (u :: l)
  | [] => List.Perm.refl _
  | v :: t => by
    rw [insN]
    split
    · exact List.Perm.refl _
    · exact ((insN_perm u t).cons v).trans (List.Perm.swap u v t)
theorem insN_sorted (u : Nat) : ∀ l, SortedN l → SortedN (insN u l)
  | [], _ => List.pairwise_singleton _ _
  | v :: t, h => by
    rw [insN]
    obtain ⟨h1, h2⟩ := List.pairwise_cons.1 h
    split
    · rename_i hlt
      have := (cmp_neg u v).1 hlt
      refine List.pairwise_cons.2 ⟨fun x hx => ?_, h⟩
      rcases List.mem_cons.1 hx with rfl | hx
      · omega
      · have := h1 x hx; omega
    · rename_i hge
      have hv : rankN v ≤ rankN u := Nat.le_of_not_lt fun h => hge ((cmp_neg u v).2 h)
      refine List.pairwise_cons.2 ⟨fun x hx => ?_, insN_sorted u t h2⟩
      rcases List.mem_cons.1 ((insN_perm u t).mem_iff.1 hx) with rfl | hx
      · exact hv
      · exact h1 x hx
theorem sortGo (l : List Nat) : ∀ acc, SortedN acc → SortedN (l.foldl (fun acc u => insN u acc) acc) ∧ (l.foldl (fun acc u => insN u acc) acc).Perm (l ++ acc) := by
  induction l with
  | nil => exact fun acc h => ⟨h, List.Perm.refl _⟩
  | cons u t ih =>
    intro acc h
    obtain ⟨h1, h2⟩ := ih (insN u acc) (insN_sorted u acc h)
    exact ⟨h1, h2.trans (((insN_perm u acc).append_left t).trans List.perm_middle)⟩
theorem sortN_sorted (l : List Nat) : SortedN (sortN l) := (sortGo l [] List.Pairwise.nil).1
theorem sortN_perm (l : List Nat) : (sortN l).Perm l := by
  have := (sortGo l [] List.Pairwise.nil).2
  rw [List.append_nil] at this
  exact this
theorem sortN_snoc (l : List Nat) (u : Nat) : sortN (l ++ [u]) = insN u (sortN l) := by
  unfold sortN
  rw [List.foldl_append]
  rfl
/-- Two rising rows of the same numbers are one. -/
theorem rising_one : ∀ (a b : List Nat), a.Pairwise (· ≤ ·) → b.Pairwise (· ≤ ·) → a.Perm b → a = b
  | [], b, _, _, h => (List.nil_perm.1 h).symm
  | x :: s, [], _, _, h => by have := h.length_eq; simp at this
  | x :: s, y :: t, ha, hb, h => by
    obtain ⟨a1, a2⟩ := List.pairwise_cons.1 ha
    obtain ⟨b1, b2⟩ := List.pairwise_cons.1 hb
    have hx : x ∈ y :: t := h.mem_iff.1 (by simp)
    have hy : y ∈ x :: s := h.mem_iff.2 (by simp)
    have e : x = y := by
      rcases List.mem_cons.1 hx with h1 | h1
      · exact h1
      · rcases List.mem_cons.1 hy with h2 | h2
        · exact h2.symm
        · have := a1 y h2
          have := b1 x h1
          omega
    subst e
    rw [rising_one s t a2 b2 (List.Perm.cons_inv h)]
theorem ranks_one {a b : List Nat} (ha : SortedN a) (hb : SortedN b) (h : a.Perm b) : a.map rankN = b.map rankN :=
  rising_one _ _ (List.pairwise_map.2 ha) (List.pairwise_map.2 hb) (h.map rankN)
theorem rank_at {a b : List Nat} (h : a.map rankN = b.map rankN) {i : Nat} (h1 : i < a.length) (h2 : i < b.length) : rankN a[i] = rankN b[i] := by
  have := congrArg (fun l => l[i]?) h
  simp only [List.getElem?_map, List.getElem?_eq_getElem h1, List.getElem?_eq_getElem h2, Option.map_some] at this
  exact Option.some.inj this
/-- The ends of a rising row are the ends of the list. -/
theorem min_rank {l s : List Nat} (hs : SortedN s) (hp : s.Perm l) (h : 0 < s.length) : rankN (minF l) = rankN s[0] := by
  have hne : l ≠ [] := by intro e; subst e; have := hp.length_eq; simp at this; subst this; simp at h
  obtain ⟨h1, h2⟩ := minF_spec l hne
  have h3 := h2 s[0] (hp.mem_iff.1 (List.getElem_mem h))
  obtain ⟨i, hi, e⟩ := List.mem_iff_getElem.1 (hp.mem_iff.2 h1)
  have h4 : rankN s[0] ≤ rankN s[i] := by
    by_cases h0 : i = 0
    · subst h0; exact Nat.le_refl _
    · exact List.pairwise_iff_getElem.1 hs 0 i h hi (by omega)
  rw [e] at h4
  omega
theorem max_rank {l s : List Nat} (hs : SortedN s) (hp : s.Perm l) (h : 0 < s.length) : rankN (maxF l) = rankN s[s.length - 1] := by
  have hne : l ≠ [] := by intro e; subst e; have := hp.length_eq; simp at this; subst this; simp at h
  obtain ⟨h1, h2⟩ := maxF_spec l hne
  have h3 := h2 s[s.length - 1] (hp.mem_iff.1 (List.getElem_mem (by omega)))
  obtain ⟨i, hi, e⟩ := List.mem_iff_getElem.1 (hp.mem_iff.2 h1)
  have h4 : rankN s[i] ≤ rankN s[s.length - 1] := by
    by_cases h0 : i = s.length - 1
    · subst h0; exact Nat.le_refl _
    · exact List.pairwise_iff_getElem.1 hs i (s.length - 1) hi (by omega) (by omega)
  rw [e] at h4
  omega
end Go.Proofs.YtjlkmfnkpnmbiaaDoor
