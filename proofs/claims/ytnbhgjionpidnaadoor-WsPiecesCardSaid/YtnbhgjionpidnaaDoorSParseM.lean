/- What the reference's Parse comes to, a frame at a time. No condition. -/
import Derived.Test.YtnbhgjionpidnaaDoorSBehind
namespace Go.Proofs.YtnbhgjionpidnaaDoor
open Go.RowKit

/-- What is read of some bytes. -/
def runL (mk : Bool) (k : Nat) (t : ByteArray) (l : List Nat) : List ItM := (runN mk l.length.succ k t l).1
theorem runL_no {mk : Bool} {k : Nat} {t : ByteArray} {l : List Nat} {c : Nat} (h : frameN mk k t.size l = .no c) : runL mk k t l = if c = 0 then [] else [⟨0, ⟨#[]⟩, c⟩] := by
  unfold runL
  rw [runN, h]
  dsimp only
  split <;> rfl
theorem runL_bad {mk : Bool} {k : Nat} {t : ByteArray} {l l' : List Nat} {fm : FrM × (Nat → Nat)} {c : Nat} (h : frameN mk k t.size l = .ok fm l') (hi : itemD k t fm.1 = .error c) : runL mk k t l = [⟨0, ⟨#[]⟩, c⟩] := by
  unfold runL
  rw [runN, h]
  dsimp only
  rw [hi]
theorem runL_end {mk : Bool} {k : Nat} {t : ByteArray} {l l' : List Nat} {fm : FrM × (Nat → Nat)} {i : Option ItM} (h : frameN mk k t.size l = .ok fm l') (hi : itemD k t fm.1 = .ok (i, none)) : runL mk k t l = i.toList := by
  unfold runL
  rw [runN, h]
  dsimp only
  rw [hi]
theorem runL_on {mk : Bool} {k k2 : Nat} {t t2 : ByteArray} {l l' : List Nat} {fm : FrM × (Nat → Nat)} {i : Option ItM} (h : frameN mk k t.size l = .ok fm l') (hi : itemD k t fm.1 = .ok (i, some (k2, t2))) : runL mk k t l = i.toList ++ runL mk k2 t2 l' := by
  have hl := frameN_len h
  unfold runL
  rw [runN, h]
  dsimp only
  rw [hi]
  dsimp only
  rw [runN_more mk l.length l'.length.succ k2 t2 l' (by omega) (by omega)]
theorem runL_feed (mk : Bool) (l : List Nat) : (feedN mk st0 l).1 = runL mk 0 ⟨#[]⟩ l := by
  rw [feedN_0]
  rfl
theorem seg_litP {w : World} {cs : Array Value} {xs : List Value} (h : cs.toList = xs) : Seg (w.alloc (.cells cs 5)) (some ⟨w.heap.size, 0, none⟩) xs := by
  subst h
  exact Seg.of_block (heap_alloc_new _ _) (fun i _ => by simp)
theorem take_four (l : List Nat) (h : 4 ≤ l.length) : l.take 4 = [maskF l 0, maskF l 1, maskF l 2, maskF l 3] := by
  match l, h with
  | a :: b :: c :: d :: _, _ => rfl
theorem txt_appendP (l m : List Nat) : txt (l ++ m) = txt l ++ txt m := by
  unfold txt
  apply ByteArray.ext
  simp
theorem txt_sizeP (l : List Nat) : (txt l).size = l.length := by simp [txt, ByteArray.size]
/-- Each operation's fact, where the reference turns one byte. -/
def paF (g off d yi mb mo mc i i4 z9 x m y n z : Nat) (p p2 : ByteArray) (j : Nat) (v _u : Value) (w : World) : Prop := match j with
  | 0 => v = .string p
  | 1 => v = .slice (some ⟨g, off, none⟩) n d
  | 2 => v = .int .i64 (y : Nat)
  | 3 => v = .int .i64 (i : Nat)
  | 4 => v = .int .i64 (yi : Nat)
  | 5 => v = .pointer (some ⟨g, off + yi, none⟩)
  | 6 => v = .int .u8 (x : Nat)
  | 7 => v = .slice (some ⟨mb, mo, none⟩) 4 mc
  | 8 => v = .int .i64 (i : Nat)
  | 9 => v = .int .i64 (i4 : Nat)
  | 10 => v = .pointer (some ⟨mb, mo + i4, none⟩)
  | 11 => v = .int .u8 (m : Nat)
  | 12 => v = .int .u8 (z9 : Nat)
  | 13 => ∃ q, v = .slice (some ⟨q, 0, none⟩) 1 1 ∧ z ≤ q ∧ Bk w q 5 #[.int .u8 (z9 : Nat)]
  | 14 => v = .string (txt [z9])
  | 15 => v = .string p2
  | 16 => v = .string p2
  | _ => True
theorem paF_bel {g off d yi mb mo mc i i4 z9 x m y n z : Nat} {p p2 : ByteArray} {w w' : World} (hb : Below w.heap.size w w') : ∀ j u u', paF g off d yi mb mo mc i i4 z9 x m y n z p p2 j u u' w → paF g off d yi mb mo mc i i4 z9 x m y n z p p2 j u u' w' := by
  intro j u u' h
  unfold paF at *
  split at h <;> first | exact h | (obtain ⟨q, h1, h2, h3⟩ := h; exact ⟨q, h1, h2, h3.bel hb⟩)
/-- The kind behind a data frame. -/
def kdN (k op : Nat) : Nat := if op = 1 ∨ op = 2 then op else k
section
variable {mk mk2 fin : Bool} {k op : Nat} {t p : ByteArray} {M : Nat → Nat} {l l2 : List Nat}
theorem runL_ctl (h : frameN mk k t.size l = .ok (⟨fin, op, mk2, p⟩, M) l2) (ho : op = 9 ∨ op = 10) : runL mk k t l = ⟨op, p, 0⟩ :: runL mk k t l2 := by
  have hi : itemD k t (⟨fin, op, mk2, p⟩ : FrM) = .ok (some ⟨op, p, 0⟩, some (k, t)) := by
    unfold itemD
    dsimp only
    rw [if_neg (by omega), if_pos ho]
  rw [runL_on h hi]
  rfl
theorem runL_part (h : frameN mk k t.size l = .ok (⟨false, op, mk2, p⟩, M) l2) (ho : op < 3) : runL mk k t l = runL mk (kdN k op) (t ++ p) l2 := by
  have hi : itemD k t (⟨false, op, mk2, p⟩ : FrM) = .ok (none, some (kdN k op, t ++ p)) := by
    unfold itemD
    dsimp only
    rw [if_neg (by omega), if_neg (by omega), if_pos rfl]
    rfl
  rw [runL_on h hi]
  rfl
theorem runL_bad7 (h : frameN mk k t.size l = .ok (⟨true, op, mk2, p⟩, M) l2) (ho : op < 3) (hv : kdN k op = 1 ∧ Lib.validD (t ++ p).data.toList = false) : runL mk k t l = [⟨0, ⟨#[]⟩, 1007⟩] := by
  have hi : itemD k t (⟨true, op, mk2, p⟩ : FrM) = .error 1007 := by
    unfold itemD
    dsimp only
    rw [if_neg (by omega), if_neg (by omega), if_neg (by decide)]
    exact if_pos hv
  rw [runL_bad h hi]
theorem runL_item (h : frameN mk k t.size l = .ok (⟨true, op, mk2, p⟩, M) l2) (ho : op < 3) (hv : ¬ (kdN k op = 1 ∧ Lib.validD (t ++ p).data.toList = false)) : runL mk k t l = ⟨kdN k op, t ++ p, 0⟩ :: runL mk 0 ⟨#[]⟩ l2 := by
  have hi : itemD k t (⟨true, op, mk2, p⟩ : FrM) = .ok (some ⟨kdN k op, t ++ p, 0⟩, some (0, ⟨#[]⟩)) := by
    unfold itemD
    dsimp only
    rw [if_neg (by omega), if_neg (by omega), if_neg (by decide)]
    exact if_neg hv
  rw [runL_on h hi]
  rfl
theorem fits_op {k op : Nat} {fin : Bool} {sh : Nat} (h : fitsB k op fin sh = true) : (op = 0 ∧ k ≠ 0) ∨ ((op = 1 ∨ op = 2) ∧ k = 0) ∨ op = 8 ∨ op = 9 ∨ op = 10 := by
  unfold fitsB at h
  split at h
  · exact Or.inl ⟨by assumption, by simpa using h⟩
  · split at h
    · exact Or.inr (Or.inl ⟨by assumption, by simpa using h⟩)
    · split at h
      · exact Or.inr (Or.inr (by assumption))
      · cases h
theorem kdN_0 (k : Nat) : kdN k 0 = k := by unfold kdN; rw [if_neg (by decide)]
theorem kdN_12 {k op : Nat} (h : op = 1 ∨ op = 2) : kdN k op = op := by unfold kdN; rw [if_pos h]
end
theorem seg_rest {w : World} {g off : Nat} {l : List Nat} (h : Seg w (some ⟨g, off, none⟩) (u8s l)) (k : Nat) (hk : k ≤ l.length) : Seg w (some ⟨g, off + k, none⟩) (u8s (l.drop k)) := by
  have h1 := h.sub k (l.length - k) (by rw [u8s_length]; omega)
  rw [u8s_cut, List.take_of_length_le (by rw [List.length_drop]; exact Nat.le_refl _)] at h1
  exact h1
end Go.Proofs.YtnbhgjionpidnaaDoor
