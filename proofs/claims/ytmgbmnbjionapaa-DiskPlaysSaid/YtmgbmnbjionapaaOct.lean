/- Bytes, bools and whole numbers in memory: small facts; that two lists of bytes are one; a copy of bytes. Condition: what is read lies in memory. -/
import Derived.Test.YtmgbmnbjionapaaSame
import Derived.Test.YtmgbmnbjionapaaLaws
import Derived.LaidHandle
import Derived.StillTailTactics
import Derived.Lib.LazyBuf
import Derived.Laws.OwnMore
import Derived.Laws.BitsAllLaws
namespace Go.Proofs.Ytmgbmnbjionapaa
open Go.RowKit

def u8s (l : List Nat) : List Value := l.map fun (x : Nat) => Value.int .u8 (x : Int)
theorem u8s_get (l : List Nat) (i : Nat) (h : i < l.length) : (u8s l)[i]'(by simp [u8s]; exact h) = .int .u8 ((l[i] : Nat) : Int) := by simp [u8s]
theorem u8s_length (l : List Nat) : (u8s l).length = l.length := by simp [u8s]
theorem u8s_one (l : List Nat) : ∀ u ∈ u8s l, u.oneCell' = true := by
  intro u hu
  simp only [u8s, List.mem_map] at hu
  obtain ⟨x, _, rfl⟩ := hu
  rfl
theorem info5 : (Try.prog.info? 5).map (fun i => (i.zero, i.size, i.bytes)) = some (some (.int .u8 0), 1, 1) := by kernel_rfl
theorem u8s_of {w : World} {A : Option Addr} {l : List Nat} (h : Seg w A ((l.map fun (x : Nat) => (x : Int)).map (Value.int .u8))) : Seg w A (u8s l) := by
  have e : (l.map fun (x : Nat) => (x : Int)).map (Value.int .u8) = u8s l := by simp [u8s]
  rw [← e]; exact h
theorem same_u8 (A B : Option Addr) (n m c d : Nat) (x y : List Nat) (hn : n = x.length) (hm : m = y.length) (w : World) (hA : Seg w A (u8s x)) (hB : Seg w B (u8s y)) (hx : n ≤ 140737488355328) (hy : m ≤ 140737488355328) :
    Calls Try.prog 18 #[.slice A n c, .slice B m d] w fun e w' => e = .returned (.bool (decide (x = y))) ∧ Below w.heap.size w w' := by
  subst hn
  subst hm
  have e1 : ∀ l : List Nat, u8s l = (l.map fun (x : Nat) => (x : Int)).map (Value.int .u8) := fun l => by simp [u8s]
  rw [e1] at hA hB
  have := same_any A B c d (x.map fun (x : Nat) => (x : Int)) (y.map fun (x : Nat) => (x : Int)) w hA hB (by simpa using hx) (by simpa using hy)
  simp only [List.length_map] at this
  refine this.mono ?_
  rintro e w' ⟨rfl, hb⟩
  refine ⟨?_, hb⟩
  have hinj : (x.map fun (x : Nat) => (x : Int)) = (y.map fun (x : Nat) => (x : Int)) ↔ x = y := by
    constructor
    · intro h
      exact (List.map_inj_right (fun a b h => Int.ofNat.inj h)).1 h
    · intro h; rw [h]
  simp only [hinj]

set_option maxRecDepth 100000 in
theorem clone_some (ad : Addr) (n c : Nat) (l : List Nat) (hn : n = l.length) (hb : n ≤ 1000000) (w : World) (hS : Seg w (some ad) (u8s l)) :
    Calls Try.prog 49 #[.slice (some ad) n c] w fun e w' => ∃ A' c', e = .returned (.slice A' n c') ∧ n ≤ c' ∧ w'.ownsRow w.heap.size 5 1 (.slice A' n c') n (u8s l) ∧ Below w.heap.size w w' := by
  obtain ⟨i0, hi0, hz0, hz1, hz2⟩ := info_parts info5
  have HA := Lib.hid hS
  have HN := Lib.hid hn
  clear hn hS
  have hnil : ∀ w : World, (binOp .eql 26 (.slice (some ad) n c) (.slice none 0 0)).run Try.prog w = .ok (.bool false) w := fun w => by
    have := Go.run_eql_slice_nil (P := Try.prog) w 26 5 (some ad) n c Try.underlying26
    simpa using this
  go_enter Try.func49, Try.ntmps49
  go_wp2_with (at_builtin; refine wpList_append_seg _ rfl _ _ _ rfl w.heap.size 5 i0 _ 1 Try.underlying26 hi0 hz0 hz1 hz2 rfl _ 0 _ rfl (World.ownsRow_lit w #[] 0 (by omega) (by decide) rfl) (some ad) n c (u8s l) rfl (by rw [u8s_length, HN.out]) (HA.out.bel ((Below.refl _ _).alloc (Nat.le_refl _) _)) (u8s_one _) (by simp only [maxLen]; omega) (by omega) (by simp only [World.size_alloc]; omega) ?_; intro v3 w3 hown3 hb3; simp only [Nat.zero_add, List.nil_append] at hown3; obtain ⟨A4, c4, rfl, hc4, s4⟩ := own_shape hown3; have Z4 := Lib.hid hown3; have B4 := Lib.hid (((Below.refl w.heap.size w).alloc (Nat.le_refl _) (.cells #[] 5)).trans hb3); clear hown3 hb3 s4)
  go_ret
  exact ⟨A4, c4, rfl, hc4, Z4.out, B4.out⟩
set_option maxRecDepth 100000 in
theorem clone_none (n c : Nat) (w : World) :
    Calls Try.prog 49 #[.slice none n c] w fun e w' => e = .returned (.slice none 0 0) ∧ w = w' := by
  have hnil : ∀ w : World, (binOp .eql 26 (.slice none n c) (.slice none 0 0)).run Try.prog w = .ok (.bool true) w := fun w => by
    have := Go.run_eql_slice_nil (P := Try.prog) w 26 5 none n c Try.underlying26
    simpa using this
  go_enter Try.func49, Try.ntmps49
  go_wp2_with fail
  go_ret
  exact ⟨rfl, rfl⟩
theorem clone_all (A : Option Addr) (n c : Nat) (l : List Nat) (hn : n = l.length) (hb : n ≤ 1000000) (w : World) (hS : Seg w A (u8s l)) :
    Calls Try.prog 49 #[.slice A n c] w fun e w' => ∃ A' c', e = .returned (.slice A' n c') ∧ n ≤ c' ∧ w'.ownsRow w.heap.size 5 1 (.slice A' n c') n (u8s l) ∧ Below w.heap.size w w' := by
  rcases A with _ | ad
  · have hl : l = [] := by
      rcases l with _ | ⟨x, l⟩
      · rfl
      · obtain ⟨b, off, h, _⟩ := hS (by simp [u8s])
        cases h
    subst hl
    subst hn
    refine (clone_none 0 c w).mono ?_
    rintro e w' ⟨rfl, rfl⟩
    exact ⟨none, 0, rfl, Nat.le_refl _, ⟨rfl, .inl ⟨rfl, rfl⟩⟩, Below.refl _ _⟩
  · exact clone_some ad n c l hn hb w hS
end Go.Proofs.Ytmgbmnbjionapaa
