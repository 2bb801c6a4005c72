/- What the statement's own row comes to, as data: it is the pager's row in another order. No program. -/
import Derived.Test.YtfbpagbfdccgfaaGPlays
namespace Go.Proofs.Ytfbpagbfdccgfaa
open Go.RowKit

theorem erase_perm {l : List HeldM} {i : Nat} (hi : i < l.length) : (l[i] :: l.eraseIdx i).Perm l := by
  rw [List.eraseIdx_eq_take_drop_succ]
  have h := (List.perm_middle (a := l[i]) (l₁ := l.take i) (l₂ := l.drop (i + 1))).symm
  rw [← List.drop_eq_getElem_cons hi, List.take_append_drop] at h
  exact h
theorem perm_erase {T l : List HeldM} (h : T.Perm l) {k i : Nat} (hk : k < T.length) (hi : i < l.length) (e : T[k] = l[i]) : (T.eraseIdx k).Perm (l.eraseIdx i) := by
  have h1 := (erase_perm hk).trans (h.trans (erase_perm hi).symm)
  rw [e] at h1
  exact h1.cons_inv
theorem perm_setE {l : List HeldM} {i : Nat} (hi : i < l.length) (x : HeldM) : (l.set i x).Perm (l.eraseIdx i ++ [x]) := by
  have h := erase_perm (l := l.set i x) (i := i) (by rw [List.length_set]; exact hi)
  rw [List.getElem_set_self, List.eraseIdx_set_eq] at h
  exact h.symm.trans (List.perm_append_singleton x _).symm
theorem perm_set {T l : List HeldM} (h : T.Perm l) {k i : Nat} (hk : k < T.length) (hi : i < l.length) (e : T[k] = l[i]) (x : HeldM) : (T.set k x).Perm (l.set i x) :=
  (perm_setE hk x).trans ((((perm_erase h hk hi e).append_right [x])).trans (perm_setE hi x).symm)
theorem findZ_none {p : HeldM → Bool} {l : List HeldM} (h : ∀ x ∈ l, p x = false) : findZ p l = -1 := by
  rcases findZ_cases p l with ⟨h1, _⟩ | ⟨i, hi, _, h2, _⟩
  · exact h1
  · rw [h _ (List.getElem_mem hi)] at h2; cases h2
theorem perm_find {T l : List HeldM} (h : T.Perm l) (ho : Once l) (page : Int) :
    (findZ (isP page) T = -1 ∧ findZ (isP page) l = -1) ∨ ∃ k, ∃ hk : k < T.length, ∃ i, ∃ hi : i < l.length, findZ (isP page) T = (k : Int) ∧ findZ (isP page) l = (i : Int) ∧ T[k] = l[i] := by
  rcases findZ_cases (isP page) l with ⟨h1, h2⟩ | ⟨i, hi, h1, h2, h3⟩
  · exact Or.inl ⟨findZ_none fun x hx => h2 x (h.mem_iff.1 hx), h1⟩
  · rcases findZ_cases (isP page) T with ⟨k1, k2⟩ | ⟨k, hk, k1, k2, k3⟩
    · have := k2 _ (h.mem_iff.2 (List.getElem_mem hi))
      rw [this] at h2; cases h2
    · refine Or.inr ⟨k, hk, i, hi, k1, h1, ?_⟩
      obtain ⟨j, hj, e⟩ := List.getElem_of_mem (h.mem_iff.1 (List.getElem_mem hk))
      have hji : j = i := ho.eq hj hi (by
        unfold isP at h2 k2
        rw [e, eq_of_beq h2, eq_of_beq k2])
      subst hji
      exact e.symm
/-- How many pages are turned. -/
def turnN (l : List HeldM) : Nat := (l.filter (·.turned)).length
theorem turn_perm {T l : List HeldM} (h : T.Perm l) : turnN T = turnN l := by
  unfold turnN
  exact (h.filter _).length_eq
theorem sort_dirty (l : List HeldM) : (sortI (dirtyN l)).length = turnN l := by
  rw [← fold_sort]
  have h := (fold_gen (dirtyN l) [] List.Pairwise.nil).2.length_eq
  rw [List.append_nil] at h
  unfold foldP
  rw [h]
  unfold dirtyN turnN
  rw [List.length_map]
theorem turn_next {l : List HeldM} {i : Nat} (hi : i < l.length) : turnN (l.take (i + 1)) = turnN (l.take i) + if l[i].turned then 1 else 0 := by
  unfold turnN
  rw [List.take_succ_eq_append_getElem hi, List.filter_append, List.length_append]
  congr 1
  cases h : l[i].turned <;> simp [h]
theorem turn_le (l : List HeldM) : turnN l ≤ l.length := List.length_filter_le _ _
/-- The pages are none below 0. -/
def Above (l : List HeldM) : Prop := ∀ x ∈ l, 0 ≤ x.page
theorem above_do {room : Int} {l : List HeldM} (h : Above l) (kind page : Int) : Above (doM room l kind page).1 := by
  have er : ∀ i, Above (l.eraseIdx i) := fun i x hx => h x (List.mem_of_mem_eraseIdx hx)
  have sn : ∀ (l : List HeldM) (y : HeldM), Above l → 0 ≤ y.page → Above (l ++ [y]) := fun l y k hy x hx => by
    rcases List.mem_append.1 hx with hx | hx
    · exact k x hx
    · simp only [List.mem_singleton] at hx; subst hx; exact hy
  unfold doM
  split
  · intro x hx
    obtain ⟨y, hy, rfl⟩ := List.mem_map.1 hx
    exact h y hy
  · split
    · exact h
    · rename_i hp
      split
      · unfold pinM
        rcases findZ_cases (isP page) l with ⟨k1, _⟩ | ⟨i, hi, k1, _, _⟩
        · rw [k1, if_neg (by decide)]
          split
          · split
            · exact h
            · exact sn _ _ (er _) (by show 0 ≤ page; omega)
          · exact sn _ _ h (by show 0 ≤ page; omega)
        · rw [k1, if_pos (by omega), Int.toNat_natCast, show l.getD i default = l[i] by simp [hi]]
          exact sn _ _ (er _) (show 0 ≤ l[i].page from h _ (List.getElem_mem hi))
      · split
        · unfold chgM
          rcases findZ_cases (isP page) l with ⟨k1, _⟩ | ⟨i, hi, k1, _, _⟩
          · rw [k1, if_pos (by decide)]; exact h
          · rw [k1, if_neg (by omega), Int.toNat_natCast, show l.getD i default = l[i] by simp [hi]]
            split
            · exact h
            · intro x hx
              rcases mem_set_or hx with hx | hx
              · exact h x hx
              · subst hx
                unfold chgH
                split <;> exact (show 0 ≤ l[i].page from h _ (List.getElem_mem hi))
        · exact h
theorem above_st (room : Int) (L : List (Int × Int)) : ∀ i, Above (stN room L i)
  | 0 => fun _ h => by cases h
  | i + 1 => above_do (above_st room L i) _ _
/-- What a call comes to, seen from the statement's own row. -/
theorem keep_cases (room : Int) (l T : List HeldM) (kind page : Int) (hT : T.Perm l) (ho : Once l) (hA : Above l) (hl : (l.length : Int) ≤ room) :
    ((doM room l kind page).2.err ≠ 0 ∧ (doM room l kind page).2.hit = false ∧ (doM room l kind page).2.out = -1 ∧ (doM room l kind page).2.wrote.length = 0 ∧ T.Perm (doM room l kind page).1)
    ∨ ((doM room l kind page).2.err = 0 ∧ kind = 4 ∧ (doM room l kind page).2.wrote.length = turnN T ∧ (T.map cleanH).Perm (doM room l kind page).1)
    ∨ ((doM room l kind page).2.err = 0 ∧ kind = 1 ∧ (doM room l kind page).2.hit = false ∧ findZ (isP page) T = -1 ∧ (T.length : Int) = room ∧ ∃ o, ∃ hk : o < T.length, 0 ≤ (doM room l kind page).2.out ∧ findZ (isP (doM room l kind page).2.out) T = (o : Int) ∧ T[o].pins = 0 ∧ T[o].turned = ((doM room l kind page).2.wrote.length == 1) ∧ (T.eraseIdx o ++ [(⟨page, 1, false⟩ : HeldM)]).Perm (doM room l kind page).1)
    ∨ ((doM room l kind page).2.err = 0 ∧ kind = 1 ∧ (doM room l kind page).2.hit = true ∧ (doM room l kind page).2.out = -1 ∧ ∃ k, ∃ hk : k < T.length, findZ (isP page) T = (k : Int) ∧ (T.set k ⟨T[k].page, T[k].pins + 1, T[k].turned⟩).Perm (doM room l kind page).1)
    ∨ ((doM room l kind page).2.err = 0 ∧ kind = 1 ∧ (doM room l kind page).2.hit = false ∧ (doM room l kind page).2.out = -1 ∧ findZ (isP page) T = -1 ∧ (T ++ [(⟨page, 1, false⟩ : HeldM)]).Perm (doM room l kind page).1)
    ∨ ((doM room l kind page).2.err = 0 ∧ kind = 2 ∧ (doM room l kind page).2.out = -1 ∧ ∃ k, ∃ hk : k < T.length, findZ (isP page) T = (k : Int) ∧ T[k].pins ≠ 0 ∧ (T.set k ⟨T[k].page, T[k].pins - 1, T[k].turned⟩).Perm (doM room l kind page).1)
    ∨ ((doM room l kind page).2.err = 0 ∧ kind = 3 ∧ (doM room l kind page).2.out = -1 ∧ ∃ k, ∃ hk : k < T.length, findZ (isP page) T = (k : Int) ∧ T[k].pins ≠ 0 ∧ (T.set k ⟨T[k].page, T[k].pins, true⟩).Perm (doM room l kind page).1) := by
  unfold doM
  by_cases h4 : kind = 4
  · rw [if_pos h4]
    refine Or.inr (Or.inl ⟨rfl, h4, ?_, hT.map cleanH⟩)
    show (sortI (dirtyN l)).length = _
    rw [sort_dirty, turn_perm hT]
  rw [if_neg h4]
  by_cases hp : page < 0
  · rw [if_pos hp]
    exact Or.inl ⟨(fun e => by cases e), rfl, rfl, rfl, hT⟩
  rw [if_neg hp]
  by_cases h1 : kind = 1
  · rw [if_pos h1]
    unfold pinM
    rcases perm_find hT ho page with ⟨k1, k2⟩ | ⟨k, hk, i, hi, k1, k2, k3⟩
    · rw [k2, if_neg (by decide)]
      by_cases hr : room ≤ (l.length : Int)
      · rw [if_pos hr]
        rcases findZ_cases isF l with ⟨q1, q2⟩ | ⟨i, hi, q1, q2, q3⟩
        · rw [q1, if_pos (by decide)]
          exact Or.inl ⟨(fun e => by cases e), rfl, rfl, rfl, hT⟩
        · rw [q1, if_neg (by omega), Int.toNat_natCast, show l.getD i default = l[i] by simp [hi]]
          have hge : 0 ≤ l[i].page := hA _ (List.getElem_mem hi)
          rcases perm_find hT ho l[i].page with ⟨r1, r2⟩ | ⟨o, hoT, j, hj, r1, r2, r3⟩
          · exfalso
            rcases findZ_cases (isP l[i].page) l with ⟨_, s2⟩ | ⟨j, hj, s1, _, _⟩
            · have := s2 _ (List.getElem_mem hi)
              unfold isP at this
              rw [beq_self_eq_true] at this; cases this
            · rw [s1] at r2; omega
          · have hji : j = i := by
              rcases findZ_cases (isP l[i].page) l with ⟨s1, _⟩ | ⟨j2, hj2, s1, s2, _⟩
              · rw [s1] at r2; omega
              · have : j2 = j := by rw [s1] at r2; omega
                subst this
                unfold isP at s2
                exact ho.eq hj hi (eq_of_beq s2)
            subst hji
            refine Or.inr (Or.inr (Or.inl ⟨rfl, h1, rfl, k1, by rw [hT.length_eq]; omega, o, hoT, hge, r1, ?_, ?_, (perm_erase hT hoT hj r3).append_right _⟩))
            · rw [r3]
              unfold isF at q2
              exact eq_of_beq q2
            · rw [r3]
              show l[j].turned = (List.length (if l[j].turned then [l[j].page] else []) == 1)
              cases l[j].turned <;> rfl
      · rw [if_neg hr]
        exact Or.inr (Or.inr (Or.inr (Or.inr (Or.inl ⟨rfl, h1, rfl, rfl, k1, hT.append_right _⟩))))
    · rw [k2, if_pos (by omega), Int.toNat_natCast, show l.getD i default = l[i] by simp [hi]]
      refine Or.inr (Or.inr (Or.inr (Or.inl ⟨rfl, h1, rfl, rfl, k, hk, k1, ?_⟩)))
      rw [k3]
      exact (perm_set hT hk hi k3 _).trans (perm_setE hi _)
  rw [if_neg h1]
  by_cases h2 : kind = 2 ∨ kind = 3
  · rw [if_pos h2]
    unfold chgM
    rcases perm_find hT ho page with ⟨k1, k2⟩ | ⟨k, hk, i, hi, k1, k2, k3⟩
    · rw [k2, if_pos (by decide)]
      exact Or.inl ⟨(fun e => by cases e), rfl, rfl, rfl, hT⟩
    · rw [k2, if_neg (by omega), Int.toNat_natCast, show l.getD i default = l[i] by simp [hi]]
      by_cases hz : l[i].pins = 0
      · rw [if_pos hz]
        exact Or.inl ⟨(fun e => by cases e), rfl, rfl, rfl, hT⟩
      · rw [if_neg hz]
        rcases h2 with h2 | h2
        · refine Or.inr (Or.inr (Or.inr (Or.inr (Or.inr (Or.inl ⟨rfl, h2, rfl, k, hk, k1, by rw [k3]; exact hz, ?_⟩)))))
          rw [k3]
          unfold chgH
          rw [if_pos h2]
          exact perm_set hT hk hi k3 _
        · refine Or.inr (Or.inr (Or.inr (Or.inr (Or.inr (Or.inr ⟨rfl, h2, rfl, k, hk, k1, by rw [k3]; exact hz, ?_⟩)))))
          rw [k3]
          unfold chgH
          rw [if_neg (by omega)]
          exact perm_set hT hk hi k3 _
  · rw [if_neg h2]
    exact Or.inl ⟨(fun e => by cases e), rfl, rfl, rfl, hT⟩
/-- Each page is there, and no other is ahead of it. -/
theorem page_there {T l : List HeldM} (h : T.Perm l) {i : Nat} (hi : i < l.length) : ¬ findZ (isP l[i].page) T < 0 := by
  rcases findZ_cases (isP l[i].page) T with ⟨_, h2⟩ | ⟨k, _, h1, _, _⟩
  · have := h2 _ (h.mem_iff.2 (List.getElem_mem hi))
    unfold isP at this
    rw [beq_self_eq_true] at this; cases this
  · omega
theorem page_once {l : List HeldM} (h : Once l) {i : Nat} (hi : i < l.length) : (((pagesN l).take i).contains l[i].page) = false := by
  cases hc : ((pagesN l).take i).contains l[i].page with
  | false => rfl
  | true =>
    exfalso
    rw [List.contains_iff_mem] at hc
    obtain ⟨j, hj, e⟩ := List.getElem_of_mem hc
    rw [List.length_take] at hj
    have hpl : (pagesN l).length = l.length := by unfold pagesN; rw [List.length_map]
    rw [List.getElem_take] at e
    have e2 : (l[j]'(by omega)).page = l[i].page := by rw [← e]; simp [pagesN]
    have := h.eq (by omega) hi e2
    omega
end Go.Proofs.Ytfbpagbfdccgfaa
