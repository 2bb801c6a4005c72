/- slices.Insert and slices.Delete at []string for a row of one's own. Condition: the place lies in the row. -/
import Derived.Test.YtopkkolcimmedaaProg
import Derived.Test.YtopkkolcimmedaaPShelf
import Derived.Test.YtopkkolcimmedaaNdA
import Derived.Test.YtopkkolcimmedaaLaws
namespace Go.Proofs.Ytopkkolcimmedaa
open Go.RowKit

/-- A block's cells with values written from place o on. -/
def laid : Array Value → Nat → List Value → Array Value
  | cs, _, [] => cs
  | cs, o, v :: r => laid (cs.setIfInBounds o v) (o + 1) r
theorem laid_size : ∀ (vs : List Value) (cs : Array Value) (o : Nat), (laid cs o vs).size = cs.size
  | [], _, _ => rfl
  | v :: r, cs, o => by rw [laid, laid_size r]; simp
theorem laid_list : ∀ (vs : List Value) (cs : Array Value) (o : Nat), o + vs.length ≤ cs.size → (laid cs o vs).toList = cs.toList.take o ++ vs ++ cs.toList.drop (o + vs.length)
  | [], cs, o, _ => by simp [laid]
  | v :: r, cs, o, h => by
    simp only [List.length_cons] at h
    have ho : o < cs.toList.length := by rw [Array.length_toList]; omega
    have e1 : (cs.setIfInBounds o v).toList = cs.toList.take o ++ v :: cs.toList.drop (o + 1) := by
      rw [Array.toList_setIfInBounds, List.set_eq_take_append_cons_drop, if_pos ho]
    have lt : (cs.toList.take o).length = o := by rw [List.length_take]; omega
    rw [laid, laid_list r _ (o + 1) (by simp; omega), e1]
    rw [List.take_append, List.drop_append, lt, List.take_of_length_le (l := cs.toList.take o) (by omega), List.drop_of_length_le (l := cs.toList.take o) (by omega)]
    rw [show o + 1 - o = 1 by omega, show o + 1 + r.length - o = r.length + 1 by omega, show o + (v :: r).length = o + 1 + r.length by simp; omega]
    simp [List.drop_drop]
theorem Bk.puts {g : Nat} {t : TypeId} : ∀ (vs : List Value) (o : Nat) {w : World} {cs : Array Value}, Bk w g t cs → Bk (w.setCells g o vs) g t (laid cs o vs)
  | [], _, _, _, h => h
  | v :: r, o, _, _, h => Bk.puts r (o + 1) (h.put o v)
theorem keep_puts {g : Nat} : ∀ (vs : List Value) (o : Nat) (w : World) (b : Nat), b ≠ g → (w.setCells g o vs).heap[b]? = w.heap[b]?
  | [], _, _, _, _ => rfl
  | v :: r, o, w, b, h => (keep_puts r (o + 1) _ b h).trans (Below.heap_setCell w ⟨g, o, none⟩ v b h)
theorem below_puts {B g : Nat} (hg : B ≤ g) : ∀ (vs : List Value) (o : Nat) (w : World), Below B w (w.setCells g o vs)
  | [], _, w => Below.refl B w
  | v :: r, o, w => ((Below.refl B w).setCell (p := ⟨g, o, none⟩) hg v).trans (below_puts hg r (o + 1) _)

/-- Nothing that was there has changed but for the row's own block. -/
structure KeptO (v : Value) (w w' : World) : Prop where
  size : w.heap.size ≤ w'.heap.size
  block : ∀ b, b < w.heap.size → v.ownBlock ≠ some b → w'.heap[b]? = w.heap[b]?
theorem KeptO.alloc (v : Value) (w : World) (o : Obj) : KeptO v w (w.alloc o) := ⟨by simp, fun b hb _ => Below.heap_alloc w o b hb⟩

/-- What an insertion leaves: the row with x at place i. -/
structure InsP (B : Nat) (v : Value) (ks : List ByteArray) (i : Nat) (x : ByteArray) (w : World) (v' : Value) (w' : World) : Prop where
  row : w'.ownsRow B 9 1 v' (ks.length + 1) (strV (ks.take i ++ x :: ks.drop i))
  kept : KeptO v w w'
  bel : Below B w w'
  at' : v'.ownBlock = v.ownBlock ∨ v'.ownBlock = some w.heap.size

theorem strV_mid (ks : List ByteArray) (i : Nat) (x : ByteArray) : strV (ks.take i ++ x :: ks.drop i) = (strV ks).take i ++ Value.string x :: (strV ks).drop i := by
  rw [strV_take, strV_drop]; simp [strV]

/-- In place: the row behind i moved up by one, x at i. -/
theorem ins_room {B g c i : Nat} {w : World} {cur : Array Value} (ks : List ByteArray) (x : ByteArray) (hB : B ≤ g) (hb : Bk w g 9 cur) (hc : ks.length + 1 ≤ c) (hcm : c ≤ maxLen) (hs : cur.size = c) (ht : cur.toList.take ks.length = strV ks) (hi : i ≤ ks.length) :
    ((w.drew.setCells g (i + 1) ((strV ks).drop i)).setCells g i [.string x]).ownsRow B 9 1 (.slice (some ⟨g, 0, none⟩) (ks.length + 1) c) (ks.length + 1) (strV (ks.take i ++ x :: ks.drop i)) := by
  refine ⟨?_, Or.inr ⟨g, c, laid (laid cur (i + 1) ((strV ks).drop i)) i [.string x], rfl, hB, ?_, hc, hcm, ?_, ?_⟩⟩
  · simp [strV]; omega
  · exact Bk.puts [.string x] i (Bk.puts _ (i + 1) hb)
  · rw [laid_size, laid_size]; omega
  · have hl : ((strV ks).drop i).length = ks.length - i := by rw [List.length_drop, strV_length]
    have hcl : cur.toList.length = c := by rw [Array.length_toList, hs]
    rw [laid_list _ _ _ (by rw [laid_size]; simp; omega), laid_list _ _ _ (by rw [hl]; omega), strV_mid]
    have h1 : cur.toList.take i = (strV ks).take i := by rw [← ht, List.take_take]; congr 1; omega
    have hlen1 : (cur.toList.take (i + 1)).length = i + 1 := by rw [List.length_take]; omega
    have e0 : (cur.toList.take (i + 1) ++ (strV ks).drop i ++ cur.toList.drop (i + 1 + ((strV ks).drop i).length)).take i = (strV ks).take i := by
      rw [List.append_assoc, List.take_append_of_le_length (by omega), List.take_take, show min i (i + 1) = i by omega, h1]
    have e2 : (cur.toList.take (i + 1) ++ (strV ks).drop i ++ cur.toList.drop (i + 1 + ((strV ks).drop i).length)).drop (i + 1) = (strV ks).drop i ++ cur.toList.drop (i + 1 + ((strV ks).drop i).length) := by
      rw [List.append_assoc, List.drop_append_of_le_length (by omega), List.drop_of_length_le (by omega)]; rfl
    rw [e0, show i + [Value.string x].length = i + 1 from rfl, e2]
    rw [show (ks.length + 1) * 1 = ((strV ks).take i ++ Value.string x :: (strV ks).drop i).length by simp [strV]; omega]
    rw [show (strV ks).take i ++ [Value.string x] ++ ((strV ks).drop i ++ cur.toList.drop (i + 1 + ((strV ks).drop i).length)) = ((strV ks).take i ++ Value.string x :: (strV ks).drop i) ++ cur.toList.drop (i + 1 + ((strV ks).drop i).length) by simp]
    rw [List.take_left]
end Go.Proofs.Ytopkkolcimmedaa
