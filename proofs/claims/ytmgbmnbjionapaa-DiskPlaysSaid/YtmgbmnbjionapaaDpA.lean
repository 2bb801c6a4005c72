/- The reference's put: a block with the first bytes of another. Condition: both lie in memory. -/
import Derived.Test.YtmgbmnbjionapaaDpS
import Derived.Test.YtmgbmnbjionapaaDiskN
namespace Go.Proofs.Ytmgbmnbjionapaa
open Go.RowKit

def putL (n : Nat) (old data : List Nat) : List Nat := data.take n ++ old.drop n
theorem putL_length (n : Nat) (old data : List Nat) (ho : old.length = 256) (hd : data.length = 256) (hn : n ≤ 256) : (putL n old data).length = 256 := by
  unfold putL
  rw [List.length_append, List.length_take, List.length_drop]; omega
theorem u8s_take (l : List Nat) (n : Nat) : (u8s l).take n = u8s (l.take n) := by unfold u8s; rw [List.map_take]
theorem u8s_drop (l : List Nat) (n : Nat) : (u8s l).drop n = u8s (l.drop n) := by unfold u8s; rw [List.map_drop]
theorem u8s_append (a b : List Nat) : u8s (a ++ b) = u8s a ++ u8s b := by unfold u8s; rw [List.map_append]
set_option maxRecDepth 100000 in
set_option maxHeartbeats 2000000 in
theorem rput_any (A1 A2 : Option Addr) (c1 c2 n : Nat) (old data : List Nat) (w : World) (ho : old.length = 256) (hd : data.length = 256) (hn : n ≤ 256) (hc1 : 256 ≤ c1) (hc2 : 256 ≤ c2) (h1 : Seg w A1 (u8s old)) (h2 : Seg w A2 (u8s data)) :
    Calls Try.prog 70 #[.slice A1 256 c1, .slice A2 256 c2, .int .i64 (n : Int)] w fun e w' => ∃ A' c', e = .returned (.slice A' 256 c') ∧ w'.ownsRow w.heap.size 5 1 (.slice A' 256 c') 256 (u8s (putL n old data)) ∧ 256 ≤ c' ∧ Below w.heap.size w w' := by
  obtain ⟨j0, hj0, hy0, hy1, hy2⟩ := info_parts info_u8
  have HT := Lib.hid (h2.take n)
  rw [u8s_take] at HT
  have HD := Lib.hid (h1.cut n c1 (by rw [u8s_length]; omega))
  rw [u8s_drop] at HD
  have HTL := Lib.hid (show n = (u8s (data.take n)).length by rw [u8s_length, List.length_take]; omega)
  have HDL := Lib.hid (show 256 - n = (u8s (old.drop n)).length by rw [u8s_length, List.length_drop]; omega)
  have hE := Lib.hid (show u8s (data.take n) ++ u8s (old.drop n) = u8s (putL n old data) by unfold putL; rw [u8s_append])
  have hn0 : (0 : Int) ≤ (n : Int) := by omega
  have hnc2 : n ≤ c2 := by omega
  have hnc2I : (n : Int) ≤ (c2 : Int) := by omega
  have hn256 : (n : Int) ≤ 256 := by omega
  have hsum : n + (256 - n) = 256 := by omega
  clear h1 h2 ho hd
  go_enter Try.func70, Try.ntmps70
  go_wp2_with (first
    | (at_builtin; refine wpList_append_seg _ rfl _ _ _ rfl w.heap.size 5 j0 _ 1 Try.underlying26 hj0 hy0 hy1 hy2 rfl _ 0 _ rfl (World.ownsRow_lit w #[] 0 (by omega) (by decide) rfl) A2 n c2 (u8s (data.take n)) rfl HTL.out (HT.out.bel ((Below.refl _ _).alloc (Nat.le_refl _) _)) (u8s_one _) (by simp only [maxLen]; omega) (by omega) (by simp) ?_; intro v1 w1 hown1 hb1; simp only [Nat.zero_add, List.nil_append] at hown1; have HOW := Lib.hid hown1; have HB1 := Lib.hid (((Below.refl w.heap.size w).alloc (Nat.le_refl _) (.cells #[] 5)).trans hb1); obtain ⟨Av, cv, rfl, hcv, _⟩ := own_shape hown1; clear hown1 hb1)
    | (at_builtin; refine wpList_append_seg _ rfl _ _ _ rfl w.heap.size 5 j0 _ 1 Try.underlying26 hj0 hy0 hy1 hy2 rfl _ n _ rfl HOW.out _ (256 - n) (c1 - n) (u8s (old.drop n)) rfl HDL.out (HD.out.bel HB1.out) (u8s_one _) (by simp only [maxLen]; omega) (by omega) HB1.out.size ?_; intro v2 w2 hown2 hb2; rw [hsum, hE.out] at hown2; have HO2 := Lib.hid hown2; have HB2 := Lib.hid (HB1.out.trans hb2); obtain ⟨A2', c2', rfl, hc2', _⟩ := own_shape hown2; clear hown2 hb2))
  all_goals
    go_ret
    exact ⟨A2', c2', rfl, HO2.out, hc2', HB2.out⟩
/-- The rows behind the first k writes. -/
def landR (f : Nat → Nat) (rows : List (List Nat)) (wts : List (Nat × List Nat)) : Nat → List (List Nat)
  | 0 => rows
  | k + 1 => (landR f rows wts k).set (wts.getD k (0, [])).1 (putL (f k * 32) ((landR f rows wts k).getD (wts.getD k (0, [])).1 []) (wts.getD k (0, [])).2)
theorem landR_length (f : Nat → Nat) (rows : List (List Nat)) (wts : List (Nat × List Nat)) : ∀ k, (landR f rows wts k).length = rows.length
  | 0 => rfl
  | k + 1 => by
    show (List.set _ _ _).length = _
    rw [List.length_set, landR_length f rows wts k]
theorem blk_landP (s : Nat) (hs : s ≤ 8) (im : List Nat) (k n T : Nat) (l : List Nat) (hl : l.length = 256) (hk : k < T) (hn : n < T) (hi : im.length = T * 256) : blkN (landP s im (k, l)) n = if n = k then putL (s * 32) (blkN im n) l else blkN im n := by
  have hk2 := Nat.mul_le_mul_right 256 (show k + 1 ≤ T by omega)
  have hn2 := Nat.mul_le_mul_right 256 (show n + 1 ≤ T by omega)
  have hlt : (l.take (s * 32)).length = s * 32 := by rw [List.length_take]; omega
  have hb : (blkN im n).length = 256 := by unfold blkN; rw [List.length_take, List.length_drop, hi]; omega
  have hb2 : (blkN (landP s im (k, l)) n).length = 256 := by unfold blkN; rw [List.length_take, List.length_drop, landP_length s hs im (k, l) T hi hk hl]; omega
  have at' : ∀ (im : List Nat) (j : Nat), j < 256 → (blkN im n)[j]? = im[n * 256 + j]? := fun im j hj => by
    unfold blkN; rw [List.getElem?_take, if_pos hj, List.getElem?_drop]
  apply List.ext_getElem?
  intro j
  by_cases hj : j < 256
  · rw [at' _ j hj]
    unfold landP
    rw [putB_get im (k * 256) (l.take (s * 32)) (by rw [hlt]; omega), hlt]
    by_cases e : n = k
    · subst e
      rw [if_pos rfl, if_neg (by omega)]
      unfold putL
      by_cases h1 : j < s * 32
      · rw [if_pos (by omega), List.getElem?_append_left (by rw [hlt]; exact h1), show n * 256 + j - n * 256 = j by omega]
      · rw [if_neg (by omega), List.getElem?_append_right (by rw [hlt]; omega), hlt, List.getElem?_drop, show s * 32 + (j - s * 32) = j by omega, at' _ j hj]
    · rw [if_neg e, at' _ j hj]
      rcases Nat.lt_or_ge n k with h | h
      · have := Nat.mul_le_mul_right 256 (show n + 1 ≤ k by omega)
        rw [if_pos (by omega)]
      · have := Nat.mul_le_mul_right 256 (show k + 1 ≤ n by omega)
        rw [if_neg (by omega), if_neg (by omega)]
  · rw [List.getElem?_eq_none (by omega)]
    symm
    apply List.getElem?_eq_none
    split
    · rw [putL_length _ _ _ hb hl (by omega)]; omega
    · omega
/-- The blocks of an image as rows. -/
def rowsN (im : List Nat) (T : Nat) : List (List Nat) := (List.range T).map (blkN im)
theorem rowsN_length (im : List Nat) (T : Nat) : (rowsN im T).length = T := by unfold rowsN; simp
theorem rowsN_at (im : List Nat) (T i : Nat) (h : i < T) : (rowsN im T)[i]? = some (blkN im i) := by
  unfold rowsN; rw [List.getElem?_map, List.getElem?_range h]; rfl
theorem landR_rows (f : Nat → Nat) (hf : ∀ i, f i ≤ 8) (D : DM) (T : Nat) (h : D.Ok T) : ∀ k, k ≤ D.wts.length → landR f (rowsN D.img T) D.wts k = rowsN (landN f D.img D.wts k) T
  | 0, _ => rfl
  | k + 1, hk => by
    have ih := landR_rows f hf D T h k (by omega)
    have hm : D.wts.getD k (0, []) ∈ D.wts := by
      rw [List.getD_eq_getElem?_getD, List.getElem?_eq_getElem (by omega)]
      exact List.getElem_mem _
    show (landR f (rowsN D.img T) D.wts k).set _ _ = rowsN (landP (f k) (landN f D.img D.wts k) (D.wts.getD k (0, []))) T
    rw [ih]
    obtain ⟨m, l, hml⟩ : ∃ m l, D.wts.getD k (0, []) = (m, l) := ⟨_, _, rfl⟩
    have h1 := h.fit _ hm
    have h2 := h.full _ hm
    rw [hml] at h1 h2 ⊢
    have hlen := landN_length f hf D T h k (by omega)
    apply List.ext_getElem?
    intro i
    rw [List.getElem?_set]
    by_cases hi : i < T
    · rw [rowsN_at _ _ _ hi, rowsN_at _ _ _ hi, blk_landP (f k) (hf k) _ m i T l h2 h1 hi hlen]
      by_cases e : m = i
      · subst e
        rw [if_pos rfl, if_pos (by rw [rowsN_length]; exact hi), if_pos rfl]
        congr 2
        rw [List.getD_eq_getElem?_getD, rowsN_at _ _ _ hi]; rfl
      · rw [if_neg e, if_neg (fun h => e h.symm)]
    · rw [List.getElem?_eq_none (by rw [rowsN_length]; omega), List.getElem?_eq_none (by rw [rowsN_length]; omega)]
      by_cases e : m = i
      · omega
      · rw [if_neg e]
end Go.Proofs.Ytmgbmnbjionapaa
