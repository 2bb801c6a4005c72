/- A block's cells with values written in. No program. -/
import Derived.Test.YtfbpagbfdccgfaaMem
import Derived.Test.YtfbpagbfdccgfaaKp
namespace Go.Proofs.Ytfbpagbfdccgfaa
open Go.RowKit

/-- A block's cells with values written from place o on. -/
def laid : Array Value → Nat → List Value → Array Value
  | cs, _, [] => cs
  | cs, o, v :: r => laid (cs.setIfInBounds o v) (o + 1) r
theorem laid_size : ∀ (vs : List Value) (cs : Array Value) (o : Nat), (laid cs o vs).size = cs.size
  | [], _, _ => rfl
  | v :: r, cs, o => by rw [laid, laid_size r]; simp
theorem laid_list : ∀ (vs : List Value) (cs : Array Value) (o : Nat), o + vs.length ≤ cs.size → (laid cs o vs).toList = cs.toList.take o ++ vs ++ cs.toList.drop (o + vs.length)
  | [], cs, o, _ => by simp [laid]
  | v :: r, cs, o, h => by
    simp only [List.length_cons] at h
    have ho : o < cs.toList.length := by rw [Array.length_toList]; omega
    have e1 : (cs.setIfInBounds o v).toList = cs.toList.take o ++ v :: cs.toList.drop (o + 1) := by
      rw [Array.toList_setIfInBounds, List.set_eq_take_append_cons_drop, if_pos ho]
    have lt : (cs.toList.take o).length = o := by rw [List.length_take]; omega
    rw [laid, laid_list r _ (o + 1) (by simp; omega), e1]
    rw [List.take_append, List.drop_append, lt, List.take_of_length_le (l := cs.toList.take o) (by omega), List.drop_of_length_le (l := cs.toList.take o) (by omega)]
    rw [show o + 1 - o = 1 by omega, show o + 1 + r.length - o = r.length + 1 by omega, show o + (v :: r).length = o + 1 + r.length by simp; omega]
    simp [List.drop_drop]
theorem Bk.puts {g : Nat} {t : TypeId} : ∀ (vs : List Value) (o : Nat) {w : World} {cs : Array Value}, Bk w g t cs → Bk (w.setCells g o vs) g t (laid cs o vs)
  | [], _, _, _, h => h
  | v :: r, o, _, _, h => Bk.puts r (o + 1) (h.put o v)
theorem keep_puts {g : Nat} : ∀ (vs : List Value) (o : Nat) (w : World) (b : Nat), b ≠ g → (w.setCells g o vs).heap[b]? = w.heap[b]?
  | [], _, _, _, _ => rfl
  | v :: r, o, w, b, h => (keep_puts r (o + 1) _ b h).trans (Below.heap_setCell w ⟨g, o, none⟩ v b h)
theorem below_puts {B g : Nat} (hg : B ≤ g) : ∀ (vs : List Value) (o : Nat) (w : World), Below B w (w.setCells g o vs)
  | [], _, w => Below.refl B w
  | v :: r, o, w => ((Below.refl B w).setCell (p := ⟨g, o, none⟩) hg v).trans (below_puts hg r (o + 1) _)

theorem setCells_heap {g : Nat} : ∀ (vs : List Value) (o : Nat) (w : World) (b : Nat), b ≠ g → (w.setCells g o vs).heap[b]? = w.heap[b]? := keep_puts
theorem Kp.puts {S S' : Nat → Prop} {a : World} {g : Nat} (hg : S g) : ∀ (vs : List Value) (o : Nat) {w : World}, Kp S S' a w → Kp S S' a (w.setCells g o vs)
  | [], _, _, h => h
  | v :: r, o, _, h => Kp.puts hg r (o + 1) (h.setCell (p := ⟨g, o, none⟩) (Or.inl hg) v)
end Go.Proofs.Ytfbpagbfdccgfaa
