/- Copies of bytes: small facts, in a seat that has frames. Condition: what is read lies in memory. -/
import Derived.Test.YtockmpnclajjmaaDoorEnc
import Derived.LaidHandle
import Derived.StillTailTactics
import Derived.Lib.LazyBuf
import Derived.Laws.OwnMore
import Derived.Laws.BitsAllLaws
namespace Go.Proofs.YtockmpnclajjmaaDoor
open Go.RowKit

set_option maxRecDepth 100000 in
theorem clone_some (ad : Addr) (n c : Nat) (l : List Nat) (hn : n = l.length) (hb : n ≤ 1000000) (w : World) (hS : Seg w (some ad) (u8s l)) :
    Calls Tryd.prog 20 #[.slice (some ad) n c] w fun e w' => ∃ A' c', e = .returned (.slice A' n c') ∧ n ≤ c' ∧ w'.ownsRow w.heap.size 5 1 (.slice A' n c') n (u8s l) ∧ Below w.heap.size w w' := by
  obtain ⟨i0, hi0, hz0, hz1, hz2⟩ := info_parts info5
  have HA := Lib.hid hS
  have HN := Lib.hid hn
  clear hn hS
  have hnil : ∀ w : World, (binOp .eql 23 (.slice (some ad) n c) (.slice none 0 0)).run Tryd.prog w = .ok (.bool false) w := fun w => by
    have := Go.run_eql_slice_nil (P := Tryd.prog) w 23 5 (some ad) n c Tryd.underlying23
    simpa using this
  go_enter Tryd.func20, Tryd.ntmps20
  go_wp2_with (at_builtin; refine wpList_append_seg _ rfl _ _ _ rfl w.heap.size 5 i0 _ 1 Tryd.underlying23 hi0 hz0 hz1 hz2 rfl _ 0 _ rfl (World.ownsRow_lit w #[] 0 (by omega) (by decide) rfl) (some ad) n c (u8s l) rfl (by rw [u8s_length, HN.out]) (HA.out.bel ((Below.refl _ _).alloc (Nat.le_refl _) _)) (u8s_one _) (by simp only [maxLen]; omega) (by omega) (by simp only [World.size_alloc]; omega) ?_; intro v3 w3 hown3 hb3; simp only [Nat.zero_add, List.nil_append] at hown3; obtain ⟨A4, c4, rfl, hc4, s4⟩ := own_shape hown3; have Z4 := Lib.hid hown3; have B4 := Lib.hid (((Below.refl w.heap.size w).alloc (Nat.le_refl _) (.cells #[] 5)).trans hb3); clear hown3 hb3 s4)
  go_ret
  exact ⟨A4, c4, rfl, hc4, Z4.out, B4.out⟩
set_option maxRecDepth 100000 in
theorem clone_none (n c : Nat) (w : World) :
    Calls Tryd.prog 20 #[.slice none n c] w fun e w' => e = .returned (.slice none 0 0) ∧ w = w' := by
  have hnil : ∀ w : World, (binOp .eql 23 (.slice none n c) (.slice none 0 0)).run Tryd.prog w = .ok (.bool true) w := fun w => by
    have := Go.run_eql_slice_nil (P := Tryd.prog) w 23 5 none n c Tryd.underlying23
    simpa using this
  go_enter Tryd.func20, Tryd.ntmps20
  go_wp2_with fail
  go_ret
  exact ⟨rfl, rfl⟩
theorem clone_all (A : Option Addr) (n c : Nat) (l : List Nat) (hn : n = l.length) (hb : n ≤ 1000000) (w : World) (hS : Seg w A (u8s l)) :
    Calls Tryd.prog 20 #[.slice A n c] w fun e w' => ∃ A' c', e = .returned (.slice A' n c') ∧ n ≤ c' ∧ w'.ownsRow w.heap.size 5 1 (.slice A' n c') n (u8s l) ∧ Below w.heap.size w w' := by
  rcases A with _ | ad
  · have hl : l = [] := by
      rcases l with _ | ⟨x, l⟩
      · rfl
      · obtain ⟨b, off, h, _⟩ := hS (by simp [u8s])
        cases h
    subst hl
    subst hn
    refine (clone_none 0 c w).mono ?_
    rintro e w' ⟨rfl, rfl⟩
    exact ⟨none, 0, rfl, Nat.le_refl _, ⟨rfl, .inl ⟨rfl, rfl⟩⟩, Below.refl _ _⟩
  · exact clone_some ad n c l hn hb w hS
end Go.Proofs.YtockmpnclajjmaaDoor
