/- Keys as lists of eight bytes: digits of a rank, and back. No condition. -/
import Derived.Test.YtjlkmfnkpnmbiaaDoorMath
import Derived.Laws.Strings
namespace Go.Proofs.YtjlkmfnkpnmbiaaDoor
set_option linter.unusedVariables false

/-- The digit of weight 256 to the i. -/
def dig8 (r i : Nat) : Nat := r / 2 ^ (8 * (7 - i)) % 256
def digs (r : Nat) : List Nat := (List.range 8).map (dig8 r)
def valN (l : List Nat) : Nat := l.foldl (fun r c => r * 256 + c) 0
def unrankB (r : Nat) : Nat := if 9223372036854775808 ≤ r then r - 9223372036854775808 else 18446744073709551615 - r
def unkeyOk (l : List Nat) : Bool := decide (l.length = 8) && decide (rankN (unrankB (valN l)) = valN l)
def unkeyF (l : List Nat) : Nat := if unkeyOk l = true then unrankB (valN l) else 0

theorem digs_eq (r : Nat) : digs r = [r / 72057594037927936 % 256, r / 281474976710656 % 256, r / 1099511627776 % 256, r / 4294967296 % 256, r / 16777216 % 256, r / 65536 % 256, r / 256 % 256, r % 256] := by
  simp [digs, dig8, List.range, List.range.loop]
theorem digs_length (r : Nat) : (digs r).length = 8 := by simp [digs]
theorem dig8_lt (r i : Nat) : dig8 r i < 256 := by unfold dig8; omega
theorem digs_lt (r : Nat) : ∀ x ∈ digs r, x < 256 := by
  intro x hx
  simp only [digs, List.mem_map] at hx
  obtain ⟨i, _, rfl⟩ := hx
  exact dig8_lt r i
theorem val_digs (r : Nat) (h : r < 18446744073709551616) : valN (digs r) = r := by
  rw [digs_eq]
  simp only [valN, List.foldl_cons, List.foldl_nil]
  omega
theorem digs_val (l : List Nat) (hl : l.length = 8) (hb : ∀ x ∈ l, x < 256) : digs (valN l) = l := by
  match l, hl with
  | [a, b, c, d, e, f, g, h], _ =>
    have ha := hb a (by simp)
    have hbb := hb b (by simp)
    have hc := hb c (by simp)
    have hd := hb d (by simp)
    have he := hb e (by simp)
    have hf := hb f (by simp)
    have hg := hb g (by simp)
    have hh := hb h (by simp)
    rw [digs_eq]
    simp only [valN, List.foldl_cons, List.foldl_nil, List.cons.injEq, and_true]
    refine ⟨?_, ?_, ?_, ?_, ?_, ?_, ?_, ?_⟩ <;> omega
theorem val_lt (l : List Nat) (hl : l.length = 8) (hb : ∀ x ∈ l, x < 256) : valN l < 18446744073709551616 := by
  match l, hl with
  | [a, b, c, d, e, f, g, h], _ =>
    have ha := hb a (by simp)
    have hbb := hb b (by simp)
    have hc := hb c (by simp)
    have hd := hb d (by simp)
    have he := hb e (by simp)
    have hf := hb f (by simp)
    have hg := hb g (by simp)
    have hh := hb h (by simp)
    simp only [valN, List.foldl_cons, List.foldl_nil]
    omega
theorem bits_bits (b : Nat) : bitsN (bitsN b) = bitsN b := by
  cases h : nanB b
  · rw [bits_num b h, bits_num b h]
  · rw [bits_nan b h]; decide
theorem unrank_rank (b : Nat) (hb : b < 18446744073709551616) : unrankB (rankN b) = bitsN b := by
  have h1 := bitsN_lt b hb
  unfold unrankB rankN negB
  generalize bitsN b = u at *
  by_cases h : 9223372036854775808 ≤ u
  · simp only [h, decide_true, if_true]; rw [if_neg (by omega)]; omega
  · simp only [h, decide_false, Bool.false_eq_true, if_false]; rw [if_pos (by omega)]; omega
theorem rank_bits (b : Nat) : rankN (bitsN b) = rankN b := by unfold rankN; rw [bits_bits]
theorem unkey_key (b : Nat) (hb : b < 18446744073709551616) : unkeyOk (digs (rankN b)) = true ∧ bitsN (unkeyF (digs (rankN b))) = bitsN b := by
  have hr := rankN_lt b hb
  have h1 : unkeyOk (digs (rankN b)) = true := by
    unfold unkeyOk
    rw [val_digs _ hr, unrank_rank b hb, rank_bits, digs_length]; simp
  refine ⟨h1, ?_⟩
  unfold unkeyF
  rw [if_pos h1, val_digs _ hr, unrank_rank b hb, bits_bits]
theorem unrankB_lt (r : Nat) (h : r < 18446744073709551616) : unrankB r < 18446744073709551616 := by unfold unrankB; split <;> omega
theorem unkeyF_lt (l : List Nat) (hb : ∀ x ∈ l, x < 256) : unkeyF l < 18446744073709551616 := by
  unfold unkeyF
  split
  · rename_i h
    unfold unkeyOk at h
    simp only [Bool.and_eq_true, decide_eq_true_eq] at h
    exact unrankB_lt _ (val_lt l h.1 hb)
  · omega

/-! The reference's way: byte by byte. -/
def refDig (u i : Nat) : Nat := if negB u = true then 255 - dig8 u i else if i = 0 then (dig8 u i + 128) % 256 else dig8 u i
theorem ref_dig (b i : Nat) (hb : b < 18446744073709551616) (hi : i < 8) : refDig (bitsN b) i = dig8 (rankN b) i := by
  have hl := bitsN_lt b hb
  unfold rankN refDig
  generalize bitsN b = u at *
  have hi' : i = 0 ∨ i = 1 ∨ i = 2 ∨ i = 3 ∨ i = 4 ∨ i = 5 ∨ i = 6 ∨ i = 7 := by omega
  unfold negB
  by_cases h : 9223372036854775808 ≤ u
  · simp only [h, decide_true, if_true]
    rcases hi' with rfl | rfl | rfl | rfl | rfl | rfl | rfl | rfl <;> simp [dig8] <;> omega
  · simp only [h, decide_false, Bool.false_eq_true, if_false]
    rcases hi' with rfl | rfl | rfl | rfl | rfl | rfl | rfl | rfl <;> simp [dig8] <;> omega
def refTurn (h i c : Nat) : Nat := if h < 128 then 255 - c else if i = 0 then c - 128 else c
def refVal (l : List Nat) (k : Nat) : Nat := ((List.range k).map fun i => refTurn (l.getD 0 0) i (l.getD i 0)).foldl (fun r c => r * 256 + c) 0
theorem ref_val (l : List Nat) (hl : l.length = 8) (hb : ∀ x ∈ l, x < 256) : refVal l 8 = unrankB (valN l) := by
  match l, hl with
  | [a, b, c, d, e, f, g, h], _ =>
    have ha := hb a (by simp)
    have hbb := hb b (by simp)
    have hc := hb c (by simp)
    have hd := hb d (by simp)
    have he := hb e (by simp)
    have hf := hb f (by simp)
    have hg := hb g (by simp)
    have hh := hb h (by simp)
    have hv : valN [a, b, c, d, e, f, g, h] = (((((((0 * 256 + a) * 256 + b) * 256 + c) * 256 + d) * 256 + e) * 256 + f) * 256 + g) * 256 + h := by
      simp only [valN, List.foldl_cons, List.foldl_nil]
    unfold refVal
    simp only [List.range, List.range.loop, List.map_cons, List.map_nil, List.foldl_cons, List.foldl_nil, List.getD_cons_zero, List.getD_cons_succ, refTurn]
    generalize valN [a, b, c, d, e, f, g, h] = V at *
    unfold unrankB
    by_cases h1 : a < 128
    · simp only [h1, if_true]
      rw [if_neg (by omega)]
      omega
    · simp only [h1, if_false, if_true, Nat.reduceEqDiff, Nat.succ_ne_zero]
      rw [if_pos (by omega)]
      omega
theorem ref_ok (l : List Nat) (hl : l.length = 8) (hb : ∀ x ∈ l, x < 256) : decide (digs (rankN (unrankB (valN l))) = l) = unkeyOk l := by
  have h1 := unrankB_lt _ (val_lt l hl hb)
  unfold unkeyOk
  rw [hl]
  simp only [decide_true, Bool.true_and]
  congr 1
  apply propext
  constructor
  · intro h
    have := congrArg valN h
    rwa [val_digs _ (rankN_lt _ h1)] at this
  · intro h
    rw [h, digs_val l hl hb]

/-! Keys, as texts, are in the ranks' order. -/
def lessN : List Nat → List Nat → Bool
  | _, [] => false
  | [], _ :: _ => true
  | a :: x, b :: y => if a < b then true else if b < a then false else lessN x y
theorem less_digs (r s : Nat) (hr : r < 18446744073709551616) (hs : s < 18446744073709551616) : lessN (digs r) (digs s) = decide (r < s) := by
  have key : ∀ a b c d e f g h a' b' c' d' e' f' g' h' : Nat, a < 256 → b < 256 → c < 256 → d < 256 → e < 256 → f < 256 → g < 256 → h < 256 → a' < 256 → b' < 256 → c' < 256 → d' < 256 → e' < 256 → f' < 256 → g' < 256 → h' < 256 →
      lessN [a, b, c, d, e, f, g, h] [a', b', c', d', e', f', g', h'] = decide (valN [a, b, c, d, e, f, g, h] < valN [a', b', c', d', e', f', g', h']) := by
    intro a b c d e f g h a' b' c' d' e' f' g' h' _ _ _ _ _ _ _ _ _ _ _ _ _ _ _ _
    simp only [lessN, valN, List.foldl_cons, List.foldl_nil]
    by_cases h1 : a < a'
    · simp only [h1, if_true]; symm; simp; omega
    by_cases h1' : a' < a
    · simp only [h1, h1', if_true, if_false]; symm; simp; omega
    by_cases h2 : b < b'
    · simp only [h1, h1', h2, if_true, if_false]; symm; simp; omega
    by_cases h2' : b' < b
    · simp only [h1, h1', h2, h2', if_true, if_false]; symm; simp; omega
    by_cases h3 : c < c'
    · simp only [h1, h1', h2, h2', h3, if_true, if_false]; symm; simp; omega
    by_cases h3' : c' < c
    · simp only [h1, h1', h2, h2', h3, h3', if_true, if_false]; symm; simp; omega
    by_cases h4 : d < d'
    · simp only [h1, h1', h2, h2', h3, h3', h4, if_true, if_false]; symm; simp; omega
    by_cases h4' : d' < d
    · simp only [h1, h1', h2, h2', h3, h3', h4, h4', if_true, if_false]; symm; simp; omega
    by_cases h5 : e < e'
    · simp only [h1, h1', h2, h2', h3, h3', h4, h4', h5, if_true, if_false]; symm; simp; omega
    by_cases h5' : e' < e
    · simp only [h1, h1', h2, h2', h3, h3', h4, h4', h5, h5', if_true, if_false]; symm; simp; omega
    by_cases h6 : f < f'
    · simp only [h1, h1', h2, h2', h3, h3', h4, h4', h5, h5', h6, if_true, if_false]; symm; simp; omega
    by_cases h6' : f' < f
    · simp only [h1, h1', h2, h2', h3, h3', h4, h4', h5, h5', h6, h6', if_true, if_false]; symm; simp; omega
    by_cases h7 : g < g'
    · simp only [h1, h1', h2, h2', h3, h3', h4, h4', h5, h5', h6, h6', h7, if_true, if_false]; symm; simp; omega
    by_cases h7' : g' < g
    · simp only [h1, h1', h2, h2', h3, h3', h4, h4', h5, h5', h6, h6', h7, h7', if_true, if_false]; symm; simp; omega
    by_cases h8 : h < h'
    · simp only [h1, h1', h2, h2', h3, h3', h4, h4', h5, h5', h6, h6', h7, h7', h8, if_true, if_false]; symm; simp; omega
    · simp only [h1, h1', h2, h2', h3, h3', h4, h4', h5, h5', h6, h6', h7, h7', h8, if_false]; symm; split <;> simp <;> omega
  have := key (r / 72057594037927936 % 256) (r / 281474976710656 % 256) (r / 1099511627776 % 256) (r / 4294967296 % 256) (r / 16777216 % 256) (r / 65536 % 256) (r / 256 % 256) (r % 256)
    (s / 72057594037927936 % 256) (s / 281474976710656 % 256) (s / 1099511627776 % 256) (s / 4294967296 % 256) (s / 16777216 % 256) (s / 65536 % 256) (s / 256 % 256) (s % 256)
    (by omega) (by omega) (by omega) (by omega) (by omega) (by omega) (by omega) (by omega) (by omega) (by omega) (by omega) (by omega) (by omega) (by omega) (by omega) (by omega)
  rw [← digs_eq, ← digs_eq, val_digs r hr, val_digs s hs] at this
  exact this
end Go.Proofs.YtjlkmfnkpnmbiaaDoor
