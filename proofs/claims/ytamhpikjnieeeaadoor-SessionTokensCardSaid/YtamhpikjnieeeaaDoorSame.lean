/- 'Same' tells whether two lists of bytes are one. Condition: both lists lie in memory. -/
import Derived.Test.YtamhpikjnieeeaaDoorProg
import Derived.Test.YtamhpikjnieeeaaDoorMem
import Derived.WalkLawsBesides
import Derived.BigQuiet
import Derived.Deep.QuietTactic
namespace Go.Proofs.YtamhpikjnieeeaaDoor
open Go.RowKit

theorem take_eq_step {xs ys : List Int} {k : Nat} (hk : k < xs.length) (hk' : k < ys.length) (h : xs.take k = ys.take k) (he : xs[k] = ys[k]) : xs.take (k + 1) = ys.take (k + 1) := by
  rw [List.take_succ_eq_append_getElem hk, List.take_succ_eq_append_getElem hk', h, he]

set_option maxRecDepth 100000 in
theorem same_any (A A' : Option Addr) (c c' : Nat) (xs ys : List Int) (w : World) (hA : Seg w A (xs.map (Value.int .u8))) (hA' : Seg w A' (ys.map (Value.int .u8)))
    (hx : xs.length ≤ 140737488355328) (hy : ys.length ≤ 140737488355328) :
    Calls Tryd.prog 9 #[.slice A xs.length c, .slice A' ys.length c'] w fun e w' => e = .returned (.bool (decide (xs = ys))) ∧ Below w.heap.size w w' := by
  have HA := Lib.hid hA
  have HB := Lib.hid hA'
  clear hA hA'
  by_cases hl : xs.length = ys.length
  · have hne : ((xs.length : Int) != (ys.length : Int)) = false := by simp; omega
    have HL := Lib.hid hl
    have hl1 : xs.length ≤ ys.length := by omega
    have hl2 : ys.length ≤ xs.length := by omega
    clear hl
    go_enter Tryd.func9, Tryd.ntmps9
    go_wp2
    go_loopw [13] (fun i wr => ∃ k : Nat, k ≤ xs.length ∧ i = .int .i64 k ∧ xs.take k = ys.take k ∧ Below w.heap.size w wr) (fun i _ => xs.length - (intOf i).toNat)
    case atStart => exact ⟨0, by omega, rfl, rfl, Below.refl _ _⟩
    case round =>
      obtain ⟨k, hk, rfl, ht, hb⟩ := hrel
      by_cases hlt : k < xs.length
      · obtain ⟨b, off, rfl, hbl, _, hc⟩ := (HA.out.bel hb).pick (k := k) (by simpa using hlt)
        obtain ⟨b', off', rfl, hbl', _, hc'⟩ := (HB.out.bel hb).pick (k := k) (by simp; omega)
        simp only [List.getElem_map] at hc hc'
        have i1 : (0 : Int) ≤ (k : Int) := by omega
        have i2 : (k : Int) < (xs.length : Int) := by omega
        have i3 : (k : Int) < (ys.length : Int) := by omega
        have hk' : k < ys.length := by omega
        have HT := Lib.hid ht
        have HW := Lib.hid hb
        clear ht hb
        by_cases he : xs[k] = ys[k]
        · have he' : (xs[k] != ys[k]) = false := by simp [he]
          have HE := Lib.hid he
          clear he
          go_wp2
          go_quiet (fail)
          go_wp2
          go_roundw
          case rel => exact ⟨k + 1, by omega, by go_num, take_eq_step hlt hk' HT.out HE.out, below_drewN HW.out _⟩
          case measure => simp [intOf]; omega
        · have he' : (xs[k] != ys[k]) = true := by simp [he]
          have HE := Lib.hid he
          clear he
          go_wp2
          go_quiet (fail)
          go_wp2
          go_ret
          refine ⟨?_, below_drewN HW.out _⟩
          have hne : ¬ xs = ys := fun h => HE.out (by subst h; rfl)
          simp [hne]
      · have hk' : k = xs.length := by omega
        have HW := Lib.hid hb
        have heq : xs = ys := by
          subst hk'
          have := ht
          rw [List.take_length, HL.out, List.take_length] at this
          exact this
        have hd : decide (xs = ys) = true := by simp [heq]
        have HD := Lib.hid hd
        clear hb heq hd ht hk'
        go_wp2
        go_ret
        exact ⟨by rw [HD.out]; rfl, HW.out⟩
  · have hne : ((xs.length : Int) != (ys.length : Int)) = true := by simp; omega
    have hd : decide (xs = ys) = false := by simp; intro h; exact hl (by rw [h])
    have HD := Lib.hid hd
    clear hd hl
    go_enter Tryd.func9, Tryd.ntmps9
    go_wp2
    go_ret
    exact ⟨by rw [HD.out]; rfl, Below.refl _ _⟩
end Go.Proofs.YtamhpikjnieeeaaDoor
