/- What Check says of a message, and what the reference's says. Condition: the message's entries lie in memory. -/
import Derived.Test.YtgifbjomaenlnaaWLong
namespace Go.Proofs.Ytgifbjomaenlnaa
open Go.RowKit

theorem Mg.ent' {w : World} {m : MsgM} {A : Option Addr} {n c : Nat} (h : Mg w m A n c) : Es w m.ents A n c := ⟨h.en, h.es, h.bn, h.be⟩
set_option maxRecDepth 100000 in
theorem check_any (m : MsgM) (A : Option Addr) (n c : Nat) (w : World) (h : Mg w m A n c) :
    Calls Try.prog 12 #[.agg (msgC m A n c)] w fun e w' => e = .returned (.int .i64 (checkN m : Nat)) ∧ Below w.heap.size w w' := by
  obtain ⟨K, hK⟩ : ∃ K, K = m.kind := ⟨_, rfl⟩
  have hk := h.bk
  have HE := Lib.hid h.en
  have hn := h.bn
  unfold msgC checkN
  rw [← hK] at hk ⊢
  obtain ⟨k1, k2⟩ := hk
  have HC := fun (w' : World) (hb : Below w.heap.size w w') => contains_ent m.ents A n c w' (h.ent'.bel hb)
  have HC := Lib.hid HC
  clear h hK
  by_cases h1 : K < 0
  · rw [if_pos (Or.inl h1)]
    go_enter Try.func12, Try.ntmps12
    go_wp2
    go_ret
    exact ⟨rfl, (Below.refl _ _).alloc (Nat.le_refl _) _⟩
  · by_cases h2 : 255 < K
    · rw [if_pos (Or.inr h2)]
      go_enter Try.func12, Try.ntmps12
      go_wp2
      go_ret
      exact ⟨rfl, (Below.refl _ _).alloc (Nat.le_refl _) _⟩
    · rw [if_neg (by omega)]
      by_cases h3 : 8 < n
      · rw [if_pos (Or.inl (by rw [← HE.out]; exact h3))]
        go_enter Try.func12, Try.ntmps12
        go_wp2
        go_ret
        exact ⟨rfl, (Below.refl _ _).alloc (Nat.le_refl _) _⟩
      · have h3' : ¬ 8 < m.ents.length := by rw [← HE.out]; exact h3
        by_cases h4 : m.ents.any longB = true
        · rw [if_pos (Or.inr h4)]
          rw [h4] at HC
          clear h3' h4
          go_enter Try.func12, Try.ntmps12
          go_wp2_with (refine (HC.out _ ((Below.refl _ _).alloc (Nat.le_refl _) _)).mono ?_; rintro e w' ⟨rfl, hb⟩; have HB := Lib.hid (((Below.refl _ _).alloc (Nat.le_refl _) _).trans (hb.mono (by simp))))
          go_ret
          exact ⟨rfl, HB.out⟩
        · rw [if_neg (by rintro (h | h); exact h3' h; exact h4 h)]
          have h4 : m.ents.any longB = false := by simpa using h4
          rw [h4] at HC
          clear h3' h4
          go_enter Try.func12, Try.ntmps12
          go_wp2_with (refine (HC.out _ ((Below.refl _ _).alloc (Nat.le_refl _) _)).mono ?_; rintro e w' ⟨rfl, hb⟩; have HB := Lib.hid (((Below.refl _ _).alloc (Nat.le_refl _) _).trans (hb.mono (by simp))))
          go_ret
          exact ⟨rfl, HB.out⟩
end Go.Proofs.Ytgifbjomaenlnaa
