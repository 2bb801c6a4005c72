/- Bytes in memory: small facts; that two lists of bytes are one. Condition: what is read lies in memory. -/
import Derived.Test.YtbpclifgafafdaaDoorSame
import Derived.Test.YtbpclifgafafdaaDoorLaws
import Derived.LaidHandle
import Derived.StillTailTactics
import Derived.Lib.LazyBuf
import Derived.Laws.OwnMore
import Derived.Laws.BitsAllLaws
namespace Go.Proofs.YtbpclifgafafdaaDoor
open Go.RowKit

def u8s (l : List Nat) : List Value := l.map fun (x : Nat) => Value.int .u8 (x : Int)
theorem u8s_get (l : List Nat) (i : Nat) (h : i < l.length) : (u8s l)[i]'(by simp [u8s]; exact h) = .int .u8 ((l[i] : Nat) : Int) := by simp [u8s]
theorem u8s_length (l : List Nat) : (u8s l).length = l.length := by simp [u8s]
theorem u8s_one (l : List Nat) : ∀ u ∈ u8s l, u.oneCell' = true := by
  intro u hu
  simp only [u8s, List.mem_map] at hu
  obtain ⟨x, _, rfl⟩ := hu
  rfl
theorem info5 : (Tryd.prog.info? 5).map (fun i => (i.zero, i.size, i.bytes)) = some (some (.int .u8 0), 1, 1) := by kernel_rfl
theorem u8s_of {w : World} {A : Option Addr} {l : List Nat} (h : Seg w A ((l.map fun (x : Nat) => (x : Int)).map (Value.int .u8))) : Seg w A (u8s l) := by
  have e : (l.map fun (x : Nat) => (x : Int)).map (Value.int .u8) = u8s l := by simp [u8s]
  rw [← e]; exact h
end Go.Proofs.YtbpclifgafafdaaDoor
