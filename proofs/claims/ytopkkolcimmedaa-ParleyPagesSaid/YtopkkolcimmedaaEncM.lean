/- The block of a node, as plain maths; a block that is being written. No condition. -/
import Derived.Test.YtopkkolcimmedaaRoom
import Derived.Test.YtopkkolcimmedaaNdA
namespace Go.Proofs.Ytopkkolcimmedaa
open Go.RowKit

def bytesN (s : ByteArray) : List Nat := s.data.toList.map UInt8.toNat
def textN (s : ByteArray) : List Nat := s.size % 256 :: bytesN s
def kidB (k : Int) : List Nat := [(k % 256).toNat, (k / 256 % 256).toNat]
def headB (n : NodeM) : List Nat := if n.leaf then [1, n.keys.length % 256] else [2, n.keys.length % 256] ++ kidB (n.kids.getD 0 0)
def pieceB (n : NodeM) (i : Nat) : List Nat := textN (n.keys.getD i ByteArray.empty) ++ (if n.leaf then textN (n.vals.getD i ByteArray.empty) else kidB (n.kids.getD (i + 1) 0))
def encTo (n : NodeM) : Nat → List Nat
  | 0 => headB n
  | j + 1 => encTo n j ++ pieceB n j
def padB (l : List Nat) : List Nat := l ++ List.replicate (256 - l.length) 0
def encB (n : NodeM) : List Nat := padB (encTo n n.keys.length)
theorem bytesN_length (s : ByteArray) : (bytesN s).length = s.size := by unfold bytesN; rw [List.length_map]; rfl
theorem textN_length (s : ByteArray) : (textN s).length = 1 + s.size := by unfold textN; rw [List.length_cons, bytesN_length]; omega
theorem headB_length (n : NodeM) : (headB n).length = headN n.leaf := by unfold headB headN kidB; split <;> rfl
theorem pieceB_length {n : NodeM} (hv : n.leaf = true → n.vals.length = n.keys.length) (i : Nat) (hi : i < n.keys.length) : (pieceB n i).length = keyN n i := by
  unfold pieceB keyN
  rw [List.length_append, textN_length]
  by_cases h : n.leaf = true
  · rw [if_pos h, if_pos h, if_pos (by rw [hv h]; exact hi), textN_length]
  · rw [if_neg h, if_neg h]; rfl
theorem encTo_length {n : NodeM} (hv : n.leaf = true → n.vals.length = n.keys.length) : ∀ j, j ≤ n.keys.length → (encTo n j).length = headN n.leaf + sumN n j
  | 0, _ => by rw [encTo, headB_length]; rfl
  | j + 1, h => by
    rw [encTo, List.length_append, encTo_length hv j (by omega), pieceB_length hv j (by omega), sumN]
    omega
theorem form_vk {n : NodeM} (h : formB n = true) : n.leaf = true → n.vals.length = n.keys.length := by
  obtain ⟨lf, ks, vs, cs⟩ := n
  intro hl
  simp only at hl
  subst hl
  exact (form_leaf_eq h).1
theorem padB_length {l : List Nat} (h : l.length ≤ 256) : (padB l).length = 256 := by
  unfold padB
  rw [List.length_append, List.length_replicate]; omega
theorem encB_length {n : NodeM} (h : formB n = true) (hs : sizeN n ≤ 256) : (encB n).length = 256 := by
  refine padB_length ?_
  rw [encTo_length (form_vk h) _ (Nat.le_refl _)]
  exact hs
theorem byteCells_u8s (s : ByteArray) : Lib.byteCells s.data.toList = u8s (bytesN s) := by
  unfold Lib.byteCells u8s bytesN
  rw [List.map_map]
  rfl
/-- A block of 256 bytes, of which the first ones are written. -/
def EncW (w : World) (g : Nat) (l : List Nat) : Prop := Bk w g 5 (u8s (padB l)).toArray
theorem EncW.more {w : World} {g : Nat} {l : List Nat} (h : EncW w g l) (m : List Nat) (hl : l.length + m.length ≤ 256) : EncW (w.setRow g ((u8s (padB l)).toArray.toList.take l.length ++ u8s m ++ (u8s (padB l)).toArray.toList.drop (l.length + m.length)).toArray) g (l ++ m) := by
  unfold EncW
  have e : (u8s (padB l)).toArray.toList.take l.length ++ u8s m ++ (u8s (padB l)).toArray.toList.drop (l.length + m.length) = u8s (padB (l ++ m)) := by
    simp only [u8s, padB, List.map_append, List.map_replicate]
    rw [List.take_append_of_le_length (by simp), List.take_of_length_le (by simp)]
    rw [List.drop_append, List.drop_eq_nil_of_le (by simp), List.nil_append, List.drop_replicate]
    simp only [List.length_map, List.length_append]
    congr 2
    omega
  rw [e]
  exact Bk.row h _
theorem EncW.size {w : World} {g : Nat} {l : List Nat} (_h : EncW w g l) (hl : l.length ≤ 256) : (u8s (padB l)).toArray.size = 256 := by
  simp [u8s_length, padB_length hl]
end Go.Proofs.Ytopkkolcimmedaa
