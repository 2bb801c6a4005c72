/- Bytes in memory: small facts; that two lists of bytes are one. Condition: what is read lies in memory. -/
import Derived.Test.YtamhpikjnieeeaaDoorSame
import Derived.Test.YtamhpikjnieeeaaDoorLaws
import Derived.LaidHandle
import Derived.StillTailTactics
import Derived.Lib.LazyBuf
import Derived.Laws.OwnMore
import Derived.Laws.BitsAllLaws
namespace Go.Proofs.YtamhpikjnieeeaaDoor
open Go.RowKit

def u8s (l : List Nat) : List Value := l.map fun (x : Nat) => Value.int .u8 (x : Int)
theorem u8s_get (l : List Nat) (i : Nat) (h : i < l.length) : (u8s l)[i]'(by simp [u8s]; exact h) = .int .u8 ((l[i] : Nat) : Int) := by simp [u8s]
theorem u8s_length (l : List Nat) : (u8s l).length = l.length := by simp [u8s]
theorem u8s_one (l : List Nat) : ∀ u ∈ u8s l, u.oneCell' = true := by
  intro u hu
  simp only [u8s, List.mem_map] at hu
  obtain ⟨x, _, rfl⟩ := hu
  rfl
theorem info5 : (Tryd.prog.info? 5).map (fun i => (i.zero, i.size, i.bytes)) = some (some (.int .u8 0), 1, 1) := by kernel_rfl
theorem u8s_of {w : World} {A : Option Addr} {l : List Nat} (h : Seg w A ((l.map fun (x : Nat) => (x : Int)).map (Value.int .u8))) : Seg w A (u8s l) := by
  have e : (l.map fun (x : Nat) => (x : Int)).map (Value.int .u8) = u8s l := by simp [u8s]
  rw [← e]; exact h
theorem same_u8 (A B : Option Addr) (n m c d : Nat) (x y : List Nat) (hn : n = x.length) (hm : m = y.length) (w : World) (hA : Seg w A (u8s x)) (hB : Seg w B (u8s y)) (hx : n ≤ 140737488355328) (hy : m ≤ 140737488355328) :
    Calls Tryd.prog 9 #[.slice A n c, .slice B m d] w fun e w' => e = .returned (.bool (decide (x = y))) ∧ Below w.heap.size w w' := by
  subst hn
  subst hm
  have e1 : ∀ l : List Nat, u8s l = (l.map fun (x : Nat) => (x : Int)).map (Value.int .u8) := fun l => by simp [u8s]
  rw [e1] at hA hB
  have := same_any A B c d (x.map fun (x : Nat) => (x : Int)) (y.map fun (x : Nat) => (x : Int)) w hA hB (by simpa using hx) (by simpa using hy)
  simp only [List.length_map] at this
  refine this.mono ?_
  rintro e w' ⟨rfl, hb⟩
  refine ⟨?_, hb⟩
  have hinj : (x.map fun (x : Nat) => (x : Int)) = (y.map fun (x : Nat) => (x : Int)) ↔ x = y := by
    constructor
    · intro h
      exact (List.map_inj_right (fun a b h => Int.ofNat.inj h)).1 h
    · intro h; rw [h]
  simp only [hinj]

end Go.Proofs.YtamhpikjnieeeaaDoor
