/- What a disk's image reads as behind writes that landed whole. No condition. -/
import Derived.Test.YtmgbmnbjionapaaDiskG
namespace Go.Proofs.Ytmgbmnbjionapaa
open Go.RowKit

/-- Block n of an image. -/
def blkN (im : List Nat) (n : Nat) : List Nat := (im.drop (n * 256)).take 256
theorem putB_get (im : List Nat) (a : Nat) (l : List Nat) (h : a + l.length ≤ im.length) (j : Nat) : (putB im a l)[j]? = if j < a then im[j]? else if j < a + l.length then l[j - a]? else im[j]? := by
  unfold putB
  have ht : (im.take a).length = a := by rw [List.length_take]; omega
  by_cases h1 : j < a
  · rw [if_pos h1, List.getElem?_append_left (by omega), List.getElem?_take, if_pos h1]
  · rw [if_neg h1, List.getElem?_append_right (by omega), ht]
    by_cases h2 : j < a + l.length
    · rw [if_pos h2, List.getElem?_append_left (by omega)]
    · rw [if_neg h2, List.getElem?_append_right (by omega), List.getElem?_drop]
      congr 1
      omega
theorem blk_land (im : List Nat) (k n T : Nat) (l : List Nat) (hl : l.length = 256) (hk : k < T) (_hn : n < T) (hi : im.length = T * 256) : blkN (landP 8 im (k, l)) n = if n = k then l else blkN im n := by
  have e : landP 8 im (k, l) = putB im (k * 256) l := by
    unfold landP
    rw [show (8 * 32 : Nat) = 256 from rfl, List.take_of_length_le (by simp only; omega)]
  rw [e]
  have hle : k * 256 + l.length ≤ im.length := by rw [hl, hi]; omega
  apply List.ext_getElem?
  intro i
  unfold blkN
  by_cases hi2 : i < 256
  · rw [List.getElem?_take, if_pos hi2, List.getElem?_drop, putB_get im _ l hle, hl]
    by_cases hnk : n = k
    · subst hnk
      rw [if_pos rfl, if_neg (by omega), if_pos (by omega)]
      congr 1
      omega
    · rw [if_neg hnk, List.getElem?_take, if_pos hi2, List.getElem?_drop]
      by_cases hlt : n < k
      · rw [if_pos (by omega)]
      · rw [if_neg (by omega), if_neg (by omega)]
  · rw [List.getElem?_take, if_neg hi2]
    by_cases hnk : n = k
    · rw [if_pos hnk, List.getElem?_eq_none (by omega)]
    · rw [if_neg hnk, List.getElem?_take, if_neg hi2]
/-- Writes that landed whole, one behind the other. -/
def wrAll (im : List Nat) (ws : List (Nat × List Nat)) : List Nat := ws.foldl (landP 8) im
theorem landN_take (im : List Nat) (ws : List (Nat × List Nat)) : ∀ k, k ≤ ws.length → landN (fun _ => 8) im ws k = wrAll im (ws.take k)
  | 0, _ => rfl
  | k + 1, hk => by
    have hlt : k < ws.length := by omega
    unfold landN
    rw [landN_take im ws k (by omega), List.take_succ_eq_append_getElem hlt]
    unfold wrAll
    rw [List.foldl_append]
    show landP 8 _ (ws.getD k (0, [])) = landP 8 _ ws[k]
    congr 1
    rw [List.getD_eq_getElem?_getD, List.getElem?_eq_getElem hlt]; rfl
theorem landN_all (im : List Nat) (ws : List (Nat × List Nat)) : landN (fun _ => 8) im ws ws.length = wrAll im ws := by
  rw [landN_take im ws ws.length (Nat.le_refl _), List.take_length]
/-- What the last write of block n holds. -/
def lastD (ws : List (Nat × List Nat)) (n : Nat) (old : List Nat) : List Nat := ws.foldl (fun acc x => if n = x.1 then x.2 else acc) old
theorem wr_length (T : Nat) : ∀ (ws : List (Nat × List Nat)) (im : List Nat), im.length = T * 256 → (∀ x ∈ ws, x.1 < T ∧ x.2.length = 256) → (wrAll im ws).length = T * 256
  | [], im, hi, _ => hi
  | x :: ws, im, hi, hw => by
    obtain ⟨h1, h2⟩ := hw x (by simp)
    exact wr_length T ws (landP 8 im x) (landP_length 8 (by omega) im x T hi h1 h2) (fun y hy => hw y (by simp [hy]))
theorem blk_wr (T n : Nat) (hn : n < T) : ∀ (ws : List (Nat × List Nat)) (im : List Nat), im.length = T * 256 → (∀ x ∈ ws, x.1 < T ∧ x.2.length = 256) → blkN (wrAll im ws) n = lastD ws n (blkN im n)
  | [], im, _, _ => rfl
  | x :: ws, im, hi, hw => by
    obtain ⟨h1, h2⟩ := hw x (by simp)
    show blkN (wrAll (landP 8 im x) ws) n = lastD ws n (if n = x.1 then x.2 else blkN im n)
    rw [blk_wr T n hn ws _ (landP_length 8 (by omega) im x T hi h1 h2) (fun y hy => hw y (by simp [hy])), blk_land im x.1 n T x.2 h2 h1 hn hi]
/-- A disk behind writes that were flushed. -/
def DM.land (D : DM) (ws : List (Nat × List Nat)) : DM := ⟨wrAll D.img ws, [], D.arm, D.left⟩
def DM.puts (D : DM) (ws : List (Nat × List Nat)) : DM := ⟨D.img, D.wts ++ ws, D.arm, D.left⟩
theorem DM.puts_succ (D : DM) (ws : List (Nat × List Nat)) (x : Nat × List Nat) : D.puts (ws ++ [x]) = (D.puts ws).put x.1 x.2 := by simp [DM.puts, DM.put]
theorem DM.flush_puts (D : DM) (ws : List (Nat × List Nat)) (h : D.wts = []) : (D.puts ws).flush = D.land ws := by
  unfold DM.flush DM.puts DM.land
  simp only [h, List.nil_append]
  rw [landN_all]
theorem rd_still {D : DM} (h : D.wts = []) (n : Nat) : D.rd n = blkN D.img n := by
  unfold DM.rd rdD blkN
  rw [h]; rfl
theorem DM.Ok.land {D : DM} {T : Nat} (h : D.Ok T) (ws : List (Nat × List Nat)) (hw : ∀ x ∈ ws, x.1 < T ∧ x.2.length = 256) : (D.land ws).Ok T :=
  ⟨wr_length T ws D.img h.len hw, h.one, h.top, by simp [DM.land], by simp [DM.land], by simp [DM.land], h.low, h.high⟩
end Go.Proofs.Ytmgbmnbjionapaa
