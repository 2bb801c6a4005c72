/- Plain maths of the row of a text's code points: small forms, small forms twice, words. -/
import Derived.Test.YtahpiminhlineaaDoorPtsM
namespace Go.Proofs.YtahpiminhlineaaDoor
open Go.Lib Go.PlainAid

/-- A text's code points: numbers and bytes. -/
def ptsF : Nat → List UInt8 → List (Nat × ByteArray)
  | 0, _ => []
  | f + 1, l => if l = [] then [] else ((decodeL l).1, ⟨(l.take (decodeL l).2).toArray⟩) :: ptsF f (l.drop (decodeL l).2)
def pts (l : List UInt8) : List (Nat × ByteArray) := ptsF l.length l
theorem ptsF_fuel : ∀ (f g : Nat) (l : List UInt8), l.length ≤ f → l.length ≤ g → ptsF f l = ptsF g l
  | 0, 0, l, _, _ => rfl
  | 0, g + 1, l, hf, _ => by
    have : l = [] := List.eq_nil_of_length_eq_zero (by omega)
    subst this
    rfl
  | f + 1, 0, l, _, hg => by
    have : l = [] := List.eq_nil_of_length_eq_zero (by omega)
    subst this
    rfl
  | f + 1, g + 1, l, hf, hg => by
    rw [ptsF, ptsF]
    by_cases hne : l = []
    · rw [if_pos hne, if_pos hne]
    · have hw := decodeL_width l
      have hl : 0 < l.length := List.length_pos_iff.2 hne
      rw [if_neg hne, if_neg hne, ptsF_fuel f g _ (by rw [List.length_drop]; omega) (by rw [List.length_drop]; omega)]
theorem pts_nil : pts [] = [] := rfl
theorem pts_step {l : List UInt8} (hne : l ≠ []) : pts l = ((decodeL l).1, ⟨(l.take (decodeL l).2).toArray⟩) :: pts (l.drop (decodeL l).2) := by
  have hw := decodeL_width l
  have hl : 0 < l.length := List.length_pos_iff.2 hne
  obtain ⟨n, hn⟩ : ∃ n, l.length = n + 1 := ⟨l.length - 1, by omega⟩
  unfold pts
  rw [hn, ptsF, if_neg hne, ptsF_fuel n _ _ (by rw [List.length_drop]; omega) (Nat.le_refl _)]
theorem pts_len : ∀ (f : Nat) (l : List UInt8), (ptsF f l).length ≤ f
  | 0, _ => Nat.le_refl _
  | f + 1, l => by
    rw [ptsF]
    split
    · exact Nat.zero_le _
    · have := pts_len f (l.drop (decodeL l).2)
      rw [List.length_cons]
      omega
theorem drop_ne {s : ByteArray} {pos : Nat} (h : pos < s.size) : s.data.toList.drop pos ≠ [] := by
  intro e
  have := congrArg List.length e
  rw [List.length_drop, len_list, List.length_nil] at this
  omega
theorem foldFrom_pts (s : ByteArray) : ∀ (f pos : Nat), s.size ≤ pos + f → foldFrom s f pos = (pts (s.data.toList.drop pos)).flatMap fun x => encodeRune (lowerZ x.1)
  | 0, pos, h => by
    rw [List.drop_eq_nil_of_le (by rw [len_list]; omega)]
    rfl
  | f + 1, pos, h => by
    rw [foldFrom]
    by_cases hp : pos < s.size
    · have hw := width_pos s pos hp
      rw [if_pos hp, pts_step (drop_ne hp), decodeL_drop, foldFrom_pts s f _ (by omega), List.drop_drop, List.flatMap_cons]
    · rw [if_neg hp, List.drop_eq_nil_of_le (by rw [len_list]; omega)]
      rfl
/-- The small forms of a row of bytes. -/
def foldB (l : List UInt8) : List UInt8 := (pts l).flatMap fun x => encodeRune (lowerZ x.1)
theorem foldL_B (s : ByteArray) : foldL s = foldB s.data.toList := by
  unfold foldL
  rw [foldFrom_pts s _ _ (by omega), List.drop_zero]
  rfl
theorem foldB_step {l : List UInt8} (hne : l ≠ []) : foldB l = encodeRune (lowerZ (decodeL l).1) ++ foldB (l.drop (decodeL l).2) := by
  unfold foldB
  rw [pts_step hne, List.flatMap_cons]
/-- Of a valid text that goes on: its first code point is one. -/
theorem valid_first {l : List UInt8} (hne : l ≠ []) (hv : validD l = true) : okR (decodeL l).1 ∧ ¬ ((decodeL l).1 = 65533 ∧ (decodeL l).2 = 1) ∧ validD (l.drop (decodeL l).2) = true ∧ (decodeL l).2 ≤ l.length := by
  have hl : 0 < l.length := List.length_pos_iff.2 hne
  have h1 := valid_rune l hne
  have h0 : runeN l ≠ 0 := by
    intro e
    rw [hv, if_pos e] at h1
    cases h1
  have hs : (⟨l.toArray⟩ : ByteArray).data.toList = l := by simp
  have hc := rune_code ⟨l.toArray⟩ (by simpa [ByteArray.size] using hl) (by rw [hs]; exact h0)
  rw [hs] at hc
  obtain ⟨c1, _, _, c4, _, _, _, _, c9⟩ := hc
  rw [hv, if_neg h0, ← c4] at h1
  refine ⟨⟨by omega, by omega, by omega⟩, ?_, h1.symm, ?_⟩
  · intro he
    apply h0
    unfold runeN
    rw [if_neg hne, if_pos he]
  · rw [c4]; exact runeN_le l
theorem enc_ne (r : Int) (m : List UInt8) : encodeRune r ++ m ≠ [] := by
  intro e
  have h1 := (encodeRuneZ_length r).1
  have := congrArg List.length e
  rw [List.length_append, List.length_nil] at this
  have h2 : (encodeRune r).length = (encodeRuneZ r).length := by unfold encodeRune; rw [List.length_map]
  omega
theorem valid_enc {r : Int} (h : okR r) (m : List UInt8) : validD (encodeRune r ++ m) = validD m := by
  obtain ⟨h1, h2⟩ := decode_encode r h m
  rw [validD_step _ (enc_ne r m), h1, if_neg, List.drop_left]
  intro he
  have := h2 he.2
  have := he.1
  simp only at this
  omega
theorem fold_enc {r : Int} (h : okR r) (m : List UInt8) : foldB (encodeRune r ++ m) = encodeRune (lowerZ r) ++ foldB m := by
  obtain ⟨h1, _⟩ := decode_encode r h m
  rw [foldB_step (enc_ne r m), h1, List.drop_left]
  simp only
  rw [Int.toNat_of_nonneg h.1]
theorem fold_twice : ∀ (f : Nat) (l : List UInt8), l.length ≤ f → validD l = true → validD (foldB l) = true ∧ foldB (foldB l) = foldB l
  | 0, l, hf, _ => by
    have : l = [] := List.eq_nil_of_length_eq_zero (by omega)
    subst this
    exact ⟨rfl, rfl⟩
  | f + 1, l, hf, hv => by
    by_cases hne : l = []
    · subst hne; exact ⟨rfl, rfl⟩
    · obtain ⟨h1, _, h3, _⟩ := valid_first hne hv
      have hw := decodeL_width l
      have hl : 0 < l.length := List.length_pos_iff.2 hne
      obtain ⟨i1, i2⟩ := fold_twice f (l.drop (decodeL l).2) (by rw [List.length_drop]; omega) h3
      rw [foldB_step hne, valid_enc (lowerZ_ok h1), fold_enc (lowerZ_ok h1), lowerZ_twice, i2]
      exact ⟨i1, rfl⟩
theorem foldS_list (s : ByteArray) : (foldS s).data.toList = foldB s.data.toList := by
  unfold foldS
  rw [foldL_B]
theorem foldS_valid {s : ByteArray} (h : validD s.data.toList = true) : validD (foldS s).data.toList = true := by
  rw [foldS_list]; exact (fold_twice _ _ (Nat.le_refl _) h).1
theorem foldS_twice {s : ByteArray} (h : validD s.data.toList = true) : foldS (foldS s) = foldS s := by
  apply ba_ext
  rw [foldS_list, foldS_list]; exact (fold_twice _ _ (Nat.le_refl _) h).2
/-- The reference's small form of a code point. -/
def encS (x : Nat) (b : ByteArray) : ByteArray := if lowerZ x = x then b else ⟨(encodeRune (lowerZ x)).toArray⟩
theorem encS_eq {l : List UInt8} (hne : l ≠ []) (hv : validD l = true) : (encS (decodeL l).1 ⟨(l.take (decodeL l).2).toArray⟩).data.toList = encodeRune (lowerZ (decodeL l).1) := by
  obtain ⟨_, h2, _, _⟩ := valid_first hne hv
  unfold encS
  split
  · rename_i h
    rw [h, encode_decode l hne h2]
  · rfl
/-- The small forms that the reference puts behind one another. -/
theorem encs_fold : ∀ (f : Nat) (l : List UInt8), l.length ≤ f → validD l = true → (pts l).flatMap (fun x => (encS x.1 x.2).data.toList) = foldB l
  | 0, l, hf, _ => by
    have : l = [] := List.eq_nil_of_length_eq_zero (by omega)
    subst this
    rfl
  | f + 1, l, hf, hv => by
    by_cases hne : l = []
    · subst hne; rfl
    · obtain ⟨_, _, h3, _⟩ := valid_first hne hv
      have hw := decodeL_width l
      have hl : 0 < l.length := List.length_pos_iff.2 hne
      rw [foldB_step hne, pts_step hne, List.flatMap_cons, encs_fold f _ (by rw [List.length_drop]; omega) h3]
      simp only
      rw [encS_eq hne hv]
/-! ### words -/
/-- The reference's words out of code points. -/
def tokR : List (Nat × ByteArray) → ByteArray → List ByteArray
  | [], _ => []
  | (r, b) :: t, w => if letterB (r : Int) = true then tokR t (w ++ b) else (if 1 ≤ w.size ∧ w.size ≤ 32 then [w] else []) ++ tokR t ByteArray.empty
def gapP : Nat → Bool := fun r => !letterB (r : Int)
theorem tokR_pieces (s : ByteArray) : ∀ (f pos : Nat) (st : Option Nat), pos ≤ s.size → s.size ≤ pos + f → (∀ a, st = some a → a < pos) →
    tokR (pts (s.data.toList.drop pos ++ [32])) (match st with | some a => s.extract a pos | none => ByteArray.empty) = (piecesFrom gapP s f pos st).filter fun x => !decide (32 < x.size)
  | f, pos, st, hp, hf, hst => by
    by_cases h : pos < s.size
    · obtain ⟨g, rfl⟩ : ∃ g, f = g + 1 := ⟨f - 1, by omega⟩
      have hne := drop_ne h
      have hw := width_pos s pos h
      have hin := width_in s pos h
      rw [pts_step (by simp), decodeL_app _ _ _ hne (by decide), decodeL_drop]
      have htk : (s.data.toList.drop pos ++ [32]).take (Utf8.decode s pos).2 = (s.extract pos (pos + (Utf8.decode s pos).2)).data.toList := by
        rw [List.take_append_of_le_length (by rw [List.length_drop, len_list]; omega), ByteArray.data_extract, Array.toList_extract]
        show _ = (s.data.toList.drop pos).take (pos + (Utf8.decode s pos).2 - pos)
        rw [Nat.add_sub_cancel_left]
      have hdr : (s.data.toList.drop pos ++ [32]).drop (Utf8.decode s pos).2 = s.data.toList.drop (pos + (Utf8.decode s pos).2) ++ [32] := by
        rw [List.drop_append_of_le_length (by rw [List.length_drop, len_list]; omega), List.drop_drop]
      rw [htk, hdr]
      have e := fun st hst => tokR_pieces s g (pos + (Utf8.decode s pos).2) st hin (by omega) hst
      have e0 := e none (fun a h => by cases h)
      have e1 := e (some pos) (fun a h => by cases h; omega)
      simp only at e0 e1
      unfold tokR piecesFrom
      rw [if_pos h]
      by_cases hl : letterB ((Utf8.decode s pos).1 : Int) = true
      · rw [if_pos hl]
        simp only [gapP, hl, Bool.not_true, Bool.false_eq_true, if_false]
        cases st with
        | none =>
          simp only
          rw [← e1]
          congr 1
        | some a =>
          have e2 := e (some a) (fun a' h' => by cases h'; have := hst a rfl; omega)
          simp only at e2 ⊢
          rw [← e2]
          congr 1
          apply ba_ext
          have hap := hst a rfl
          rw [ByteArray.data_append, Array.toList_append, ByteArray.data_extract, ByteArray.data_extract, ByteArray.data_extract, Array.toList_extract, Array.toList_extract, Array.toList_extract]
          show (s.data.toList.drop a).take (pos - a) ++ (s.data.toList.drop pos).take (pos + (Utf8.decode s pos).2 - pos) = (s.data.toList.drop a).take (pos + (Utf8.decode s pos).2 - a)
          rw [show pos + (Utf8.decode s pos).2 - a = (pos - a) + (Utf8.decode s pos).2 by omega, List.take_add, List.drop_drop, show a + (pos - a) = pos by omega, Nat.add_sub_cancel_left]
      · rw [if_neg hl]
        have hl' : letterB ((Utf8.decode s pos).1 : Int) = false := by simpa using hl
        simp only [gapP, hl', Bool.not_false, if_true]
        cases st with
        | none =>
          simp only
          rw [← e0]
          rfl
        | some a =>
          have hap := hst a rfl
          have hz : (s.extract a pos).size = pos - a := by rw [ByteArray.size_extract]; omega
          simp only
          rw [List.filter_cons, e0]
          by_cases h32 : (s.extract a pos).size ≤ 32
          · rw [if_pos ⟨by omega, h32⟩, if_pos (by rw [decide_eq_false (by omega)]; rfl)]
            rfl
          · rw [if_neg (by omega), if_neg (by rw [decide_eq_true (by omega)]; decide)]
            rfl
    · obtain rfl : pos = s.size := by omega
      rw [pieces_end gapP s f _ st h, List.drop_eq_nil_of_le (by rw [len_list]; exact Nat.le_refl _)]
      have hp32 : pts ([] ++ [32]) = [(32, ⟨#[32]⟩)] := by decide
      rw [hp32]
      cases st with
      | none =>
        show tokR [(32, ⟨#[32]⟩)] ByteArray.empty = []
        decide
      | some a =>
        have hap := hst a rfl
        have hz : (s.extract a s.size).size = s.size - a := by rw [ByteArray.size_extract]; omega
        unfold tokR
        rw [if_neg (by decide)]
        simp only [List.filter_cons, List.filter_nil]
        by_cases h32 : (s.extract a s.size).size ≤ 32
        · rw [if_pos ⟨by omega, h32⟩, if_pos (by rw [decide_eq_false (by omega)]; rfl)]
          rfl
        · rw [if_neg (by omega), if_neg (by rw [decide_eq_true (by omega)]; decide)]
          rfl
theorem tokR_eq (s : ByteArray) : tokR (pts ((foldS s).data.toList ++ [32])) ByteArray.empty = tokL s := by
  have := tokR_pieces (foldS s) (foldS s).size 0 none (Nat.zero_le _) (by omega) (fun a h => by cases h)
  unfold tokL
  rw [goFields_pieces]
  exact this
end Go.Proofs.YtahpiminhlineaaDoor
