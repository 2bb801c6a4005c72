/- Plain maths of two texts with a blank between: code points, small forms, words. -/
import Derived.Test.YtahpiminhlineaaDoorRuneM
import Derived.Test.YtahpiminhlineaaDoorUtfD
import Derived.Lib.FieldsP
namespace Go.Proofs.YtahpiminhlineaaDoor
open Go.Lib Go.PlainAid

/-- What stands behind a text changes none of its code points, if no continuing byte comes first. -/
theorem decodeN_stop {n m b0 b1 b2 b3 c1 c2 c3 : Nat} (hn : 1 ≤ n) (hm : n ≤ m) (h1 : 1 < n → c1 = b1) (h2 : 2 < n → c2 = b2) (h3 : 3 < n → c3 = b3)
    (k1 : n = 1 → c1 / 64 ≠ 2) (k2 : n = 2 → c2 / 64 ≠ 2) (k3 : n = 3 → c3 / 64 ≠ 2) : decodeN m b0 c1 c2 c3 = decodeN n b0 b1 b2 b3 := by
  by_cases a1 : n = 1
  · have := k1 a1
    unfold decodeN
    by_cases a : b0 < 128
    · rw [if_pos a, if_pos a]
    · rw [if_neg a, if_neg a, if_neg (by omega), if_neg (by omega), if_neg (by omega), if_neg (by omega), if_neg (by omega), if_neg (by omega)]
  · obtain rfl := h1 (by omega)
    by_cases a2 : n = 2
    · have := k2 a2
      unfold decodeN
      by_cases a : b0 < 128
      · rw [if_pos a, if_pos a]
      · rw [if_neg a, if_neg a]
        by_cases b : b0 / 32 = 6 ∧ c1 / 64 = 2
        · rw [if_pos (⟨b.1, by omega, b.2⟩ : b0 / 32 = 6 ∧ 1 < m ∧ c1 / 64 = 2), if_pos (⟨b.1, by omega, b.2⟩ : b0 / 32 = 6 ∧ 1 < n ∧ c1 / 64 = 2)]
        · rw [if_neg (by omega : ¬ (b0 / 32 = 6 ∧ 1 < m ∧ c1 / 64 = 2)), if_neg (by omega : ¬ (b0 / 32 = 6 ∧ 1 < n ∧ c1 / 64 = 2))]
          rw [if_neg (by omega), if_neg (by omega), if_neg (by omega), if_neg (by omega)]
    · obtain rfl := h2 (by omega)
      by_cases a3 : n = 3
      · have := k3 a3
        have e1 : (b0 / 32 = 6 ∧ 1 < m ∧ c1 / 64 = 2) = (b0 / 32 = 6 ∧ 1 < n ∧ c1 / 64 = 2) := by apply propext; omega
        have e2 : (b0 / 16 = 14 ∧ (1 < m ∧ c1 / 64 = 2) ∧ (2 < m ∧ c2 / 64 = 2)) = (b0 / 16 = 14 ∧ (1 < n ∧ c1 / 64 = 2) ∧ (2 < n ∧ c2 / 64 = 2)) := by apply propext; omega
        unfold decodeN
        simp only [e1, e2]
        split
        · rfl
        · split
          · rfl
          · split
            · rfl
            · rw [if_neg (by omega), if_neg (by omega)]
      · obtain rfl := h3 (by omega)
        have e1 : (1 < m) = (1 < n) := by apply propext; omega
        have e2 : (2 < m) = (2 < n) := by apply propext; omega
        have e3 : (3 < m) = (3 < n) := by apply propext; omega
        unfold decodeN
        simp only [e1, e2, e3]
theorem getD_appL (l m : List UInt8) (i : Nat) (h : i < l.length) : (l ++ m).getD i 0 = l.getD i 0 := by simp [List.getD, List.getElem?_append_left h]
theorem getD_appM (l m : List UInt8) (c : UInt8) (i : Nat) (h : i = l.length) : (l ++ c :: m).getD i 0 = c := by subst h; simp [List.getD]
theorem decodeL_app (l m : List UInt8) (c : UInt8) (hne : l ≠ []) (hc : c.toNat / 64 ≠ 2) : decodeL (l ++ c :: m) = decodeL l := by
  have hl : 0 < l.length := List.length_pos_iff.2 hne
  rw [decodeL_N, decodeL_N, getD_appL _ _ _ hl]
  refine decodeN_stop (by omega) (by simp) (fun h => by rw [getD_appL _ _ _ h]) (fun h => by rw [getD_appL _ _ _ h]) (fun h => by rw [getD_appL _ _ _ h]) (fun h => ?_) (fun h => ?_) (fun h => ?_)
  all_goals (rw [getD_appM _ _ _ _ h.symm]; exact hc)
/-- Two texts with a blank between. -/
def jnS (a b : ByteArray) : ByteArray := a ++ bl1 ++ b
theorem jn_list (a b : ByteArray) : (jnS a b).data.toList = a.data.toList ++ 32 :: b.data.toList := by
  unfold jnS bl1
  simp [ByteArray.data_append]
theorem jn_size (a b : ByteArray) : (jnS a b).size = a.size + 1 + b.size := by
  unfold jnS
  rw [ByteArray.size_append, ByteArray.size_append]
  rfl
theorem ba_ext {a b : ByteArray} (h : a.data.toList = b.data.toList) : a = b := ByteArray.ext (Array.toList_inj.1 h)
theorem len_list (a : ByteArray) : a.data.toList.length = a.size := rfl
theorem dec_left (a b : ByteArray) (pos : Nat) (h : pos < a.size) : Utf8.decode (jnS a b) pos = Utf8.decode a pos := by
  rw [← decodeL_drop, ← decodeL_drop, jn_list, List.drop_append_of_le_length (by rw [len_list]; omega)]
  exact decodeL_app _ _ _ (by intro e; have := congrArg List.length e; rw [List.length_drop, len_list, List.length_nil] at this; omega) (by decide)
theorem dec_mid (a b : ByteArray) : Utf8.decode (jnS a b) a.size = (32, 1) := by
  rw [← decodeL_drop, jn_list, ← len_list, List.drop_left, decodeL_ascii _ _ (by decide)]
  rfl
theorem dec_right (a b : ByteArray) (q : Nat) : Utf8.decode (jnS a b) (a.size + 1 + q) = Utf8.decode b q := by
  rw [← decodeL_drop, ← decodeL_drop, jn_list, ← len_list, Nat.add_assoc, ← List.drop_drop, List.drop_left, Nat.add_comm 1 q, List.drop_succ_cons]
theorem width_in (s : ByteArray) (pos : Nat) (h : pos < s.size) : pos + (Utf8.decode s pos).2 ≤ s.size := by
  obtain ⟨r, w, hrw⟩ : ∃ r w, Utf8.decode s pos = (r, w) := ⟨_, _, rfl⟩
  have hN := hrw
  rw [decode_at] at hN
  rw [hrw]
  have := (decodeN_conts hN (by omega)).1
  show pos + w ≤ s.size
  omega
/-! ### valid -/
theorem valid_jn : ∀ (f : Nat) (l m : List UInt8), l.length ≤ f → validD l = true → validD m = true → validD (l ++ 32 :: m) = true
  | f, [], m, _, _, hm => by
    rw [List.nil_append, validD_cons _ _ (by decide)]
    exact hm
  | 0, x :: l, m, hf, _, _ => by simp at hf
  | f + 1, x :: l, m, hf, hl, hm => by
    have hne : x :: l ≠ [] := by simp
    have hw := decodeL_width (x :: l)
    rw [validD_step _ hne] at hl
    split at hl
    · cases hl
    · rename_i he
      rw [validD_step _ (by simp), decodeL_app _ _ _ hne (by decide), if_neg he]
      have hwl : (decodeL (x :: l)).2 ≤ (x :: l).length := by
        obtain ⟨r, w, hrw⟩ : ∃ r w, decodeL (x :: l) = (r, w) := ⟨_, _, rfl⟩
        have hN := hrw
        rw [decodeL_N] at hN
        rw [hrw]
        exact (decodeN_conts hN (by simp)).1
      rw [List.drop_append_of_le_length hwl]
      exact valid_jn f _ m (by rw [List.length_drop]; simp at hf ⊢; omega) hl hm
theorem valid_jnS {a b : ByteArray} (ha : validD a.data.toList = true) (hb : validD b.data.toList = true) : validD (jnS a b).data.toList = true := by
  rw [jn_list]
  exact valid_jn _ _ _ (Nat.le_refl _) ha hb
/-! ### small forms -/
theorem foldFrom_fuel (s : ByteArray) : ∀ (f g pos : Nat), s.size ≤ pos + f → s.size ≤ pos + g → foldFrom s f pos = foldFrom s g pos
  | 0, g, pos, hf, _ => by rw [foldFrom_end s g pos (by omega)]; rfl
  | f + 1, 0, pos, _, hg => by rw [foldFrom_end s (f + 1) pos (by omega)]; rfl
  | f + 1, g + 1, pos, hf, hg => by
    rw [foldFrom, foldFrom]
    by_cases h : pos < s.size
    · have := width_pos s pos h
      rw [if_pos h, if_pos h, foldFrom_fuel s f g _ (by omega) (by omega)]
    · rw [if_neg h, if_neg h]
theorem fold_right (a b : ByteArray) : ∀ (f q : Nat), foldFrom (jnS a b) f (a.size + 1 + q) = foldFrom b f q
  | 0, _ => rfl
  | f + 1, q => by
    rw [foldFrom, foldFrom, dec_right, Nat.add_assoc (a.size + 1) q, fold_right a b f]
    by_cases h : q < b.size
    · rw [if_pos h, if_pos (by rw [jn_size]; omega)]
    · rw [if_neg h, if_neg (by rw [jn_size]; omega)]
theorem fold_left (a b : ByteArray) : ∀ (f pos : Nat), pos ≤ a.size → a.size ≤ pos + f → foldFrom (jnS a b) (f + 1 + b.size) pos = foldFrom a f pos ++ 32 :: foldL b
  | f, pos, hp, hf => by
    by_cases h : pos < a.size
    · obtain ⟨g, rfl⟩ : ∃ g, f = g + 1 := ⟨f - 1, by omega⟩
      have h1 := width_pos a pos h
      have h2 := width_in a pos h
      rw [show g + 1 + 1 + b.size = (g + 1 + b.size) + 1 by omega, foldFrom, foldFrom, if_pos h, if_pos (by rw [jn_size]; omega), dec_left a b pos h, fold_left a b g _ h2 (by omega), List.append_assoc]
    · obtain rfl : pos = a.size := by omega
      rw [foldFrom_end a f _ h, show f + 1 + b.size = (f + b.size) + 1 by omega, foldFrom, if_pos (by rw [jn_size]; omega), dec_mid]
      have e := fold_right a b (f + b.size) 0
      rw [Nat.add_zero] at e
      show encodeRune (lowerZ 32) ++ foldFrom (jnS a b) (f + b.size) (a.size + 1) = [] ++ 32 :: foldL b
      rw [e, foldFrom_fuel b (f + b.size) b.size 0 (by omega) (by omega)]
      rfl
theorem fold_jn (a b : ByteArray) : foldS (jnS a b) = jnS (foldS a) (foldS b) := by
  apply ba_ext
  rw [jn_list]
  show (foldL (jnS a b)) = foldL a ++ 32 :: foldL b
  have := fold_left a b a.size 0 (Nat.zero_le _) (by omega)
  unfold foldL
  rw [jn_size]
  exact this
/-! ### words -/
/-- The pieces from a place on, one of them begun. -/
def piecesFrom (p : Nat → Bool) (s : ByteArray) : Nat → Nat → Option Nat → List ByteArray
  | 0, _, st => match st with
    | some a => [s.extract a s.size]
    | none => []
  | f + 1, pos, st =>
    if pos < s.size then
      (if p (Utf8.decode s pos).1 then
        (match st with
         | some a => s.extract a pos :: piecesFrom p s f (pos + (Utf8.decode s pos).2) none
         | none => piecesFrom p s f (pos + (Utf8.decode s pos).2) none)
       else
        (match st with
         | some a => piecesFrom p s f (pos + (Utf8.decode s pos).2) (some a)
         | none => piecesFrom p s f (pos + (Utf8.decode s pos).2) (some pos)))
    else match st with
    | some a => [s.extract a s.size]
    | none => []
theorem pieces_spans (p : Nat → Bool) (s : ByteArray) : ∀ (f pos : Nat) (st : Option Nat) (acc : List (Nat × Nat)),
    (closeSpans s (spansFromP p s f pos st acc)).map (fun x => s.extract x.1 x.2) = acc.map (fun x => s.extract x.1 x.2) ++ piecesFrom p s f pos st
  | 0, pos, st, acc => by
    cases st <;> simp [spansFromP, closeSpans, piecesFrom]
  | f + 1, pos, st, acc => by
    unfold spansFromP piecesFrom
    by_cases h : pos < s.size
    · rw [if_pos h, if_pos h]
      cases p (Utf8.decode s pos).1
      · cases st
        · simp only [Bool.false_eq_true, if_false]
          exact pieces_spans p s f _ _ _
        · simp only [Bool.false_eq_true, if_false]
          exact pieces_spans p s f _ _ _
      · cases st
        · simp only [if_true]
          exact pieces_spans p s f _ _ _
        · simp only [if_true]
          rw [pieces_spans p s f]
          simp
    · rw [if_neg h, if_neg h]
      cases st <;> simp [closeSpans]
theorem goFields_pieces (p : Nat → Bool) (s : ByteArray) : goFieldsP p s = piecesFrom p s s.size 0 none := by
  unfold goFieldsP spansOfP
  rw [pieces_spans]
  rfl
theorem pieces_end (p : Nat → Bool) (s : ByteArray) (f pos : Nat) (st : Option Nat) (h : ¬ pos < s.size) : piecesFrom p s f pos st = match st with
    | some a => [s.extract a s.size]
    | none => [] := by
  cases f with
  | zero => rfl
  | succ f => unfold piecesFrom; rw [if_neg h]
theorem pieces_fuel (p : Nat → Bool) (s : ByteArray) : ∀ (f g pos : Nat) (st : Option Nat), s.size ≤ pos + f → s.size ≤ pos + g → piecesFrom p s f pos st = piecesFrom p s g pos st
  | 0, g, pos, st, hf, _ => by rw [pieces_end p s g pos st (by omega), pieces_end p s 0 pos st (by omega)]
  | f + 1, 0, pos, st, _, hg => by rw [pieces_end p s (f + 1) pos st (by omega), pieces_end p s 0 pos st (by omega)]
  | f + 1, g + 1, pos, st, hf, hg => by
    by_cases h : pos < s.size
    · have hw := width_pos s pos h
      have e := fun st => pieces_fuel p s f g (pos + (Utf8.decode s pos).2) st (by omega) (by omega)
      unfold piecesFrom
      rw [if_pos h, if_pos h]
      simp only [e]
    · rw [pieces_end p s _ pos st h, pieces_end p s _ pos st h]
theorem pieces_len (p : Nat → Bool) (s : ByteArray) : ∀ (f pos : Nat) (st : Option Nat), (piecesFrom p s f pos st).length ≤ f + 1
  | 0, pos, st => by cases st <;> simp [piecesFrom]
  | f + 1, pos, st => by
    have e := fun st => pieces_len p s f (pos + (Utf8.decode s pos).2) st
    unfold piecesFrom
    split
    · split
      · cases st
        · have := e none; simp only; omega
        · have := e none; simp only [List.length_cons]; omega
      · cases st
        · have := e (some pos); simp only; omega
        · have := e (some ‹Nat›); simp only; omega
    · cases st <;> simp
theorem ext_jl (a b : ByteArray) (x y : Nat) (h : y ≤ a.size) : (jnS a b).extract x y = a.extract x y := by
  apply ba_ext
  rw [ByteArray.data_extract, ByteArray.data_extract, Array.toList_extract, Array.toList_extract, jn_list]
  show ((a.data.toList ++ 32 :: b.data.toList).drop x).take (y - x) = (a.data.toList.drop x).take (y - x)
  by_cases hx : x ≤ a.size
  · rw [List.drop_append_of_le_length (by rw [len_list]; exact hx), List.take_append_of_le_length (by rw [List.length_drop, len_list]; omega)]
  · rw [show y - x = 0 by omega]; rfl
theorem drop_jn (l m : List UInt8) (c : UInt8) (k : Nat) : (l ++ c :: m).drop (l.length + 1 + k) = m.drop k := by
  rw [Nat.add_assoc, ← List.drop_drop, List.drop_left, Nat.add_comm 1 k, List.drop_succ_cons]
theorem pieces_cut (p : Nat → Bool) (s : ByteArray) (f pos : Nat) (st : Option Nat) (h : pos < s.size) (hp : p (Utf8.decode s pos).1 = true) :
    piecesFrom p s (f + 1) pos st = (match st with | some a => [s.extract a pos] | none => []) ++ piecesFrom p s f (pos + (Utf8.decode s pos).2) none := by
  conv => lhs; unfold piecesFrom
  rw [if_pos h, if_pos hp]
  cases st <;> rfl
theorem ext_jr (a b : ByteArray) (x y : Nat) : (jnS a b).extract (a.size + 1 + x) (a.size + 1 + y) = b.extract x y := by
  apply ba_ext
  rw [ByteArray.data_extract, ByteArray.data_extract, Array.toList_extract, Array.toList_extract, jn_list]
  show ((a.data.toList ++ 32 :: b.data.toList).drop (a.size + 1 + x)).take (a.size + 1 + y - (a.size + 1 + x)) = (b.data.toList.drop x).take (y - x)
  rw [← len_list a, drop_jn]
  congr 1
  omega
theorem pieces_right (p : Nat → Bool) (a b : ByteArray) : ∀ (f q : Nat) (st : Option Nat), piecesFrom p (jnS a b) f (a.size + 1 + q) (st.map fun x => a.size + 1 + x) = piecesFrom p b f q st
  | 0, q, st => by
    cases st
    · rfl
    · show [(jnS a b).extract _ (jnS a b).size] = [b.extract _ b.size]
      rw [jn_size, ext_jr]
  | f + 1, q, st => by
    unfold piecesFrom
    by_cases h : q < b.size
    · have e := fun st => pieces_right p a b f (q + (Utf8.decode b q).2) st
      have e0 := e none
      have e1 := e (some q)
      simp only [Option.map_some, Option.map_none] at e0 e1
      rw [if_pos h, if_pos (by rw [jn_size]; omega), dec_right, Nat.add_assoc (a.size + 1) q]
      cases p (Utf8.decode b q).1
      · cases st
        · simp only [Bool.false_eq_true, if_false, Option.map_none, e1]
        · have e2 := e (some ‹Nat›)
          simp only [Option.map_some] at e2
          simp only [Bool.false_eq_true, if_false, Option.map_some, e2]
      · cases st
        · simp only [if_true, Option.map_none, e0]
        · simp only [if_true, Option.map_some, e0, ext_jr]
    · rw [if_neg h, if_neg (by rw [jn_size]; omega)]
      cases st
      · rfl
      · show [(jnS a b).extract _ (jnS a b).size] = [b.extract _ b.size]
        rw [jn_size, ext_jr]
theorem pieces_left (p : Nat → Bool) (hp : p 32 = true) (a b : ByteArray) : ∀ (f pos : Nat) (st : Option Nat), pos ≤ a.size → a.size ≤ pos + f →
    piecesFrom p (jnS a b) (f + 1 + b.size) pos st = piecesFrom p a f pos st ++ goFieldsP p b
  | f, pos, st, hpos, hf => by
    by_cases h : pos < a.size
    · obtain ⟨g, rfl⟩ : ∃ g, f = g + 1 := ⟨f - 1, by omega⟩
      have h1 := width_pos a pos h
      have h2 := width_in a pos h
      have e := fun st => pieces_left p hp a b g (pos + (Utf8.decode a pos).2) st h2 (by omega)
      rw [show g + 1 + 1 + b.size = (g + 1 + b.size) + 1 by omega]
      unfold piecesFrom
      rw [if_pos h, if_pos (by rw [jn_size]; omega), dec_left a b pos h]
      cases p (Utf8.decode a pos).1
      · cases st <;> simp only [Bool.false_eq_true, if_false, e]
      · cases st
        · simp only [if_true, e]
        · simp only [if_true, e, List.cons_append]
          rw [ext_jl a b _ _ (by omega)]
    · obtain rfl : pos = a.size := by omega
      have e := pieces_right p a b (f + b.size) 0 none
      rw [Option.map_none, Nat.add_zero] at e
      rw [pieces_end p a f _ st h, show f + 1 + b.size = (f + b.size) + 1 by omega, goFields_pieces, ← pieces_fuel p b (f + b.size) b.size 0 none (by omega) (by omega), ← e]
      rw [pieces_cut p (jnS a b) _ _ _ (by rw [jn_size]; omega) (by rw [dec_mid]; exact hp), dec_mid]
      cases st
      · rfl
      · show [(jnS a b).extract _ a.size] ++ _ = [a.extract _ a.size] ++ _
        rw [ext_jl a b _ _ (Nat.le_refl _)]
theorem fields_jn (p : Nat → Bool) (hp : p 32 = true) (a b : ByteArray) : goFieldsP p (jnS a b) = goFieldsP p a ++ goFieldsP p b := by
  have e := pieces_left p hp a b a.size 0 none (Nat.zero_le _) (by omega)
  rw [goFields_pieces p (jnS a b), goFields_pieces p a, jn_size]
  exact e
/-- The words of a text. -/
def tokL (s : ByteArray) : List ByteArray := (goFieldsP (fun r => !letterB (r : Int)) (foldS s)).filter fun x => !decide (32 < x.size)
theorem tok_jn (a b : ByteArray) : tokL (jnS a b) = tokL a ++ tokL b := by
  unfold tokL
  rw [fold_jn, fields_jn _ (by decide), List.filter_append]
end Go.Proofs.YtahpiminhlineaaDoor
