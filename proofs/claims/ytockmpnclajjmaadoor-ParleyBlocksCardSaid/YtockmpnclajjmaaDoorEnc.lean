/- The walk of framing a block. Conditions: the payload lies in memory; the table of the cyclic sum is laid. -/
import Derived.Test.YtockmpnclajjmaaDoorPut
import Derived.StillTailTactics
import Derived.Lib.LazyBuf
namespace Go.Proofs.YtockmpnclajjmaaDoor
open Go.RowKit

theorem txt_inj {x y : List Nat} (hx : ∀ a ∈ x, a < 256) (hy : ∀ a ∈ y, a < 256) (h : txt x = txt y) : x = y := by
  unfold txt at h
  have h1 : x.map UInt8.ofNat = y.map UInt8.ofNat := by
    have := congrArg ByteArray.data h
    exact Array.toList_inj.2 this
  have h2 := congrArg (List.map UInt8.toNat) h1
  rw [List.map_map, List.map_map] at h2
  have e : ∀ l : List Nat, (∀ a ∈ l, a < 256) → l.map (UInt8.toNat ∘ UInt8.ofNat) = l := by
    intro l hl
    conv => rhs; rw [← List.map_id l]
    apply List.map_congr_left
    intro a ha
    have := hl a ha
    simp [Nat.mod_eq_of_lt this]
  rwa [e x hx, e y hy] at h2
theorem txt_beq {x y : List Nat} (hx : ∀ a ∈ x, a < 256) (hy : ∀ a ∈ y, a < 256) : ((txt x).toList == (txt y).toList) = decide (x = y) := by
  by_cases h : x = y
  · subst h; simp
  · have h1 : ¬ (txt x).toList = (txt y).toList := fun e => by
      rw [ByteArray.toList_eq, ByteArray.toList_eq] at e
      exact h (txt_inj hx hy (ByteArray.ext (Array.toList_inj.1 e)))
    rw [beq_eq_false_iff_ne.2 h1]
    simp [h]

set_option maxRecDepth 100000 in
theorem clone_any (ad : Addr) (n c : Nat) (l : List Nat) (hn : n = l.length) (hb : n ≤ 140737488355000) (w : World) (hA : Seg w (some ad) (u8s l)) :
    Calls Tryd.prog 20 #[.slice (some ad) n c] w fun e w' => ∃ A' c', e = .returned (.slice A' n c') ∧ n ≤ c' ∧ Seg w' A' (u8s l) ∧ Below w.heap.size w w' ∧ (∀ a, A' = some a → w.heap.size ≤ a.block) := by
  obtain ⟨i0, hi0, hz0, hz1, hz2⟩ := info_parts info5
  have HA := Lib.hid hA
  have HN := Lib.hid hn
  clear hA hn
  have hnil : ∀ w : World, (binOp .eql 23 (.slice (some ad) n c) (.slice none 0 0)).run Tryd.prog w = .ok (.bool false) w := fun w => by
    have := Go.run_eql_slice_nil (P := Tryd.prog) w 23 5 (some ad) n c Tryd.underlying23
    simpa using this
  go_enter Tryd.func20, Tryd.ntmps20
  go_wp2_with (at_builtin; refine wpList_append_seg _ rfl _ _ _ rfl w.heap.size 5 i0 _ 1 Tryd.underlying23 hi0 hz0 hz1 hz2 rfl _ 0 _ rfl (World.ownsRow_lit w #[] 0 (by omega) (by decide) rfl) (some ad) n c (u8s l) rfl (by rw [u8s_length, HN.out]) (HA.out.bel ((Below.refl _ _).alloc (Nat.le_refl _) _)) (u8s_one _) (by simp only [maxLen]; omega) (by omega) (by simp only [World.size_alloc]; omega) ?_; intro v3 w3 hown3 hb3; simp only [Nat.zero_add, List.nil_append] at hown3; obtain ⟨A4, c4, rfl, hc4, s4⟩ := own_shape hown3; have F4 := Lib.hid (own_fresh hown3); have Z4 := Lib.hid s4; have B4 := Lib.hid (((Below.refl w.heap.size w).alloc (Nat.le_refl _) (.cells #[] 5)).trans hb3); clear hown3 hb3 s4)
  go_ret
  exact ⟨A4, c4, rfl, hc4, Z4.out, B4.out, F4.out⟩

set_option maxRecDepth 100000 in
theorem equal_any (A B : Option Addr) (n m c d : Nat) (x y : List Nat) (hn : n = x.length) (hm : m = y.length) (w : World) (hA : Seg w A (u8s x)) (hB : Seg w B (u8s y)) (hx : ∀ a ∈ x, a < 256) (hy : ∀ a ∈ y, a < 256) :
    Calls Tryd.prog 22 #[.slice A n c, .slice B m d] w fun e w' => e = .returned (.bool (decide (x = y))) ∧ w = w' := by
  have h1 := run_txt w A n c x hn hA hx
  have h2 := run_txt w B m d y hm hB hy
  rw [← txt_beq hx hy]
  generalize txt x = X at *
  generalize txt y = Y at *
  clear hn hm hA hB hx hy
  go_enter Tryd.func22, Tryd.ntmps22
  go_wp2
  go_ret
  exact ⟨rfl, rfl⟩
end Go.Proofs.YtockmpnclajjmaaDoor
