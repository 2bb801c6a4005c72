/- The reference's Do, whatever the call. Condition: the pages lie in memory, none twice. -/
import Derived.Test.YtfbpagbfdccgfaaGRBad
import Derived.Test.YtfbpagbfdccgfaaGRChg
import Derived.Test.YtfbpagbfdccgfaaGRFlush
import Derived.Test.YtfbpagbfdccgfaaGRHit
import Derived.Test.YtfbpagbfdccgfaaGRFull
namespace Go.Proofs.Ytfbpagbfdccgfaa
open Go.RowKit

theorem rdo_any (A : Option Addr) (n c : Nat) (l : List HeldM) (room kind page : Int) (hn : n = l.length) (hc : n ≤ c) (hz : n ≤ 1000000) (w : World) (hS : Seg w A (rowH l)) (ho : Once l) (hr : (l.length : Int) ≤ room) (hpn : ∀ s ∈ l, s.pins ≤ 4611686018427387904) :
    Calls Try.prog 9 #[.slice A n c, .int .i64 room, .int .i64 kind, .int .i64 page] w (RdP w (doM room l kind page)) := by
  have hA : ∀ a, A = some a → rowH l ≠ [] → a.block ≠ w.heap.size := fun a e hx => by
    obtain ⟨b, off, h1, h2, _⟩ := hS hx
    rw [e] at h1
    cases h1
    exact Nat.ne_of_lt h2
  unfold doM
  by_cases h4 : kind = 4
  · subst h4
    rw [if_pos rfl]
    exact rdo_flush A n c l room page hn hz w hS
  · rw [if_neg h4]
    by_cases hp : page < 0
    · rw [if_pos hp]
      exact rdo_bad A n c l room kind page hn hc w hS hA (by omega)
    · rw [if_neg hp]
      by_cases h1 : kind = 1
      · subst h1
        rw [if_pos rfl]
        rcases findZ_cases (isP page) l with ⟨k1, _⟩ | ⟨i, hi, k1, k2, _⟩
        · by_cases hf : (n : Int) = room
          · exact rdo_full A n c l room page hn hc hz w hS hA ho (by omega) hr k1 hf
          · exact rdo_room A n c l room page hn hc hz w hS hA ho (by omega) hr k1 hf
        · exact rdo_hit A n c l room page i hi hn hc hz w hS hA ho (by omega) hpn k1 k2
      · rw [if_neg h1]
        by_cases h2 : kind = 2 ∨ kind = 3
        · rw [if_pos h2]
          exact rdo_chg A n c l room kind page hn hc hz w hS hA ho h2 (by omega) hpn
        · rw [if_neg h2]
          exact rdo_bad A n c l room kind page hn hc w hS hA (by omega)
/-- What a call leaves: no page twice, no more pages than room. -/
theorem Once.erase {l : List HeldM} (h : Once l) (i : Nat) : Once (l.eraseIdx i) := List.Pairwise.sublist (List.eraseIdx_sublist l i) h
theorem Once.snoc {l : List HeldM} (h : Once l) {x : HeldM} (hx : ∀ y ∈ l, y.page ≠ x.page) : Once (l ++ [x]) := by
  unfold Once
  rw [List.pairwise_append]
  refine ⟨h, List.pairwise_singleton _ _, fun a ha b hb => ?_⟩
  rw [List.mem_singleton] at hb
  subst hb
  exact hx a ha
theorem Once.pages {l k : List HeldM} (h : Once l) (e : k.map (·.page) = l.map (·.page)) : Once k := by
  have h1 : (l.map (·.page)).Pairwise (· ≠ ·) := List.pairwise_map.2 h
  rw [← e] at h1
  exact List.pairwise_map.1 h1
theorem set_pages {l : List HeldM} {i : Nat} {x : HeldM} (hi : i < l.length) (hx : x.page = l[i].page) : (l.set i x).map (·.page) = l.map (·.page) := by
  rw [List.map_set, hx]
  have e : (l.map (·.page))[i]'(by rw [List.length_map]; exact hi) = l[i].page := by rw [List.getElem_map]
  rw [← e]
  exact List.set_getElem_self _
theorem once_do {room : Int} {l : List HeldM} (h : Once l) (kind page : Int) : Once (doM room l kind page).1 := by
  unfold doM
  split
  · refine h.pages ?_
    show (l.map cleanH).map (·.page) = _
    rw [List.map_map]
    rfl
  · split
    · exact h
    · split
      · unfold pinM
        rcases findZ_cases (isP page) l with ⟨k1, k2⟩ | ⟨i, hi, k1, k2, k3⟩
        · rw [k1, if_neg (by decide)]
          have hp : ∀ y ∈ l, y.page ≠ page := fun y hy e => by
            have := k2 y hy
            unfold isP at this
            rw [e, beq_self_eq_true] at this
            cases this
          split
          · split
            · exact h
            · exact (h.erase _).snoc fun y hy => hp y (List.mem_of_mem_eraseIdx hy)
          · exact h.snoc hp
        · rw [k1, if_pos (by omega), Int.toNat_natCast, show l.getD i default = l[i] by simp [hi]]
          refine (h.erase i).snoc fun y hy e => ?_
          obtain ⟨j, hj, hy⟩ := List.getElem_of_mem hy
          rw [List.getElem_eraseIdx] at hy
          rw [List.length_eraseIdx, if_pos hi] at hj
          split at hy
          · subst hy
            have := h.eq (by omega) hi e
            omega
          · subst hy
            have := h.eq (by omega) hi e
            omega
      · split
        · unfold chgM
          rcases findZ_cases (isP page) l with ⟨k1, k2⟩ | ⟨i, hi, k1, k2, k3⟩
          · rw [k1, if_pos (by decide)]; exact h
          · rw [k1, if_neg (by omega), Int.toNat_natCast, show l.getD i default = l[i] by simp [hi]]
            split
            · exact h
            · refine h.pages (set_pages hi ?_)
              unfold chgH
              split <;> rfl
        · exact h
end Go.Proofs.Ytfbpagbfdccgfaa
