/- A copy of a row. Condition: the row lies in memory. -/
import Derived.Test.YtopkkolcimmedaaTwin
import Derived.StillTailTactics
import Derived.Lib.LazyBuf
namespace Go.Proofs.Ytopkkolcimmedaa
open Go.RowKit

/-- What a copy answers. -/
def CloneP (w : World) (t : TypeId) (n : Nat) (xs : List Value) (e : Ending) (w' : World) : Prop := ∃ A' c', e = .returned (.slice A' n c') ∧ n ≤ c' ∧ w'.ownsRow w.heap.size t 1 (.slice A' n c') n xs ∧ Below w.heap.size w w'
theorem Seg.none_nil {w : World} {xs : List Value} (h : Seg w none xs) : xs = [] := by
  rcases xs with _ | ⟨x, xs⟩
  · rfl
  · obtain ⟨b, off, e, _⟩ := h (by simp)
    cases e
set_option maxRecDepth 100000 in
theorem clone_str (A : Option Addr) (n c : Nat) (l : List ByteArray) (hn : n = l.length) (hc : n ≤ c) (hz : n ≤ 8796093022208) (w : World) (hA : Seg w A (strV l)) (hnone : A = none → c = 0) :
    Calls Try.prog 35 #[.slice A n c] w (CloneP w 9 n (strV l)) := by
  obtain ⟨i0, hi0, hz0, hz1, hz2⟩ := info_parts info_str
  have HA := Lib.hid hA
  have HN := Lib.hid hn
  clear hA hn
  rcases A with _ | ad
  · have h0 := hnone rfl
    subst h0
    obtain rfl : n = 0 := by omega
    have HL := Lib.hid (show strV l = [] from Seg.none_nil HA.out)
    have hnil : ∀ w : World, (binOp .eql 27 (.slice none 0 0) (.slice none 0 0)).run Try.prog w = .ok (.bool true) w := fun w => by
      have := Go.run_eql_slice_nil (P := Try.prog) w 27 9 none 0 0 Try.underlying27
      simpa using this
    go_enter Try.func35, Try.ntmps35
    go_wp2
    go_ret
    exact ⟨none, 0, rfl, Nat.le_refl _, by rw [HL.out]; exact World.ownsRow_nil _ _ _ _, Below.refl _ _⟩
  · have hnil : ∀ w : World, (binOp .eql 27 (.slice (some ad) n c) (.slice none 0 0)).run Try.prog w = .ok (.bool false) w := fun w => by
      have := Go.run_eql_slice_nil (P := Try.prog) w 27 9 (some ad) n c Try.underlying27
      simpa using this
    go_enter Try.func35, Try.ntmps35
    go_wp2_with (at_builtin; refine wpList_append_seg _ rfl _ _ _ rfl w.heap.size 9 i0 _ 16 Try.underlying27 hi0 hz0 hz1 hz2 rfl _ 0 _ rfl (World.ownsRow_lit w #[] 0 (by omega) (by decide) rfl) (some ad) n c (strV l) rfl (by rw [strV_length, HN.out]) (HA.out.bel ((Below.refl _ _).alloc (Nat.le_refl _) _)) (strV_one _) (by simp only [maxLen]; omega) (by omega) (by simp only [World.size_alloc]; omega) ?_; intro v3 w3 hown3 hb3; simp only [Nat.zero_add, List.nil_append] at hown3; obtain ⟨A4, c4, rfl, hc4, s4⟩ := own_shape hown3; have Z4 := Lib.hid hown3; have B4 := Lib.hid (((Below.refl w.heap.size w).alloc (Nat.le_refl _) (.cells #[] 9)).trans hb3); clear hown3 hb3 s4)
    go_ret
    exact ⟨A4, c4, rfl, hc4, Z4.out, B4.out⟩
set_option maxRecDepth 100000 in
theorem clone_int (A : Option Addr) (n c : Nat) (l : List Int) (hn : n = l.length) (hc : n ≤ c) (hz : n ≤ 17592186044416) (w : World) (hA : Seg w A (intV l)) (hnone : A = none → c = 0) :
    Calls Try.prog 36 #[.slice A n c] w (CloneP w 3 n (intV l)) := by
  obtain ⟨i0, hi0, hz0, hz1, hz2⟩ := info_parts info_int
  have HA := Lib.hid hA
  have HN := Lib.hid hn
  clear hA hn
  rcases A with _ | ad
  · have h0 := hnone rfl
    subst h0
    obtain rfl : n = 0 := by omega
    have HL := Lib.hid (show intV l = [] from Seg.none_nil HA.out)
    have hnil : ∀ w : World, (binOp .eql 28 (.slice none 0 0) (.slice none 0 0)).run Try.prog w = .ok (.bool true) w := fun w => by
      have := Go.run_eql_slice_nil (P := Try.prog) w 28 3 none 0 0 Try.underlying28
      simpa using this
    go_enter Try.func36, Try.ntmps36
    go_wp2
    go_ret
    exact ⟨none, 0, rfl, Nat.le_refl _, by rw [HL.out]; exact World.ownsRow_nil _ _ _ _, Below.refl _ _⟩
  · have hnil : ∀ w : World, (binOp .eql 28 (.slice (some ad) n c) (.slice none 0 0)).run Try.prog w = .ok (.bool false) w := fun w => by
      have := Go.run_eql_slice_nil (P := Try.prog) w 28 3 (some ad) n c Try.underlying28
      simpa using this
    go_enter Try.func36, Try.ntmps36
    go_wp2_with (at_builtin; refine wpList_append_seg _ rfl _ _ _ rfl w.heap.size 3 i0 _ 8 Try.underlying28 hi0 hz0 hz1 hz2 rfl _ 0 _ rfl (World.ownsRow_lit w #[] 0 (by omega) (by decide) rfl) (some ad) n c (intV l) rfl (by rw [intV_length, HN.out]) (HA.out.bel ((Below.refl _ _).alloc (Nat.le_refl _) _)) (intV_one _) (by simp only [maxLen]; omega) (by omega) (by simp only [World.size_alloc]; omega) ?_; intro v3 w3 hown3 hb3; simp only [Nat.zero_add, List.nil_append] at hown3; obtain ⟨A4, c4, rfl, hc4, s4⟩ := own_shape hown3; have Z4 := Lib.hid hown3; have B4 := Lib.hid (((Below.refl w.heap.size w).alloc (Nat.le_refl _) (.cells #[] 3)).trans hb3); clear hown3 hb3 s4)
    go_ret
    exact ⟨A4, c4, rfl, hc4, Z4.out, B4.out⟩
end Go.Proofs.Ytopkkolcimmedaa
