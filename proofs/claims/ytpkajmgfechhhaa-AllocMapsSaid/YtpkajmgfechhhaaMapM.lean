/- Plain mathematics of maps of bits: bytes as eight blocks each, what is free, runs, giving back. No condition; no program. -/
import Derived.Lib.BitFns
namespace Go.Proofs.Ytpkajmgfechhhaa

/-- Whether block i's bit is set. -/
def us (l : List Nat) (i : Nat) : Bool := (l.getD (i / 8) 0).testBit (i % 8)
/-- The byte of eight blocks. -/
def oct (b0 b1 b2 b3 b4 b5 b6 b7 : Bool) : Nat := b0.toNat + 2 * b1.toNat + 4 * b2.toNat + 8 * b3.toNat + 16 * b4.toNat + 32 * b5.toNat + 64 * b6.toNat + 128 * b7.toNat
def byteOf (f : Nat → Bool) (k : Nat) : Nat := oct (f (8 * k)) (f (8 * k + 1)) (f (8 * k + 2)) (f (8 * k + 3)) (f (8 * k + 4)) (f (8 * k + 5)) (f (8 * k + 6)) (f (8 * k + 7))
/-- The bytes of a map. -/
def pk (f : Nat → Bool) (n : Nat) : List Nat := (List.range n).map (byteOf f)
def upd (f : Nat → Bool) (i : Nat) (v : Bool) : Nat → Bool := fun j => if j = i then v else f j

theorem oct_lt : ∀ b0 b1 b2 b3 b4 b5 b6 b7 : Bool, oct b0 b1 b2 b3 b4 b5 b6 b7 < 256 := by decide +kernel
theorem oct_bit : ∀ b0 b1 b2 b3 b4 b5 b6 b7 : Bool, (oct b0 b1 b2 b3 b4 b5 b6 b7).testBit 0 = b0 ∧ (oct b0 b1 b2 b3 b4 b5 b6 b7).testBit 1 = b1 ∧ (oct b0 b1 b2 b3 b4 b5 b6 b7).testBit 2 = b2 ∧ (oct b0 b1 b2 b3 b4 b5 b6 b7).testBit 3 = b3 ∧
    (oct b0 b1 b2 b3 b4 b5 b6 b7).testBit 4 = b4 ∧ (oct b0 b1 b2 b3 b4 b5 b6 b7).testBit 5 = b5 ∧ (oct b0 b1 b2 b3 b4 b5 b6 b7).testBit 6 = b6 ∧ (oct b0 b1 b2 b3 b4 b5 b6 b7).testBit 7 = b7 := by decide +kernel
theorem oct_ones : ∀ b0 b1 b2 b3 b4 b5 b6 b7 : Bool, Lib.onesCount (oct b0 b1 b2 b3 b4 b5 b6 b7) = b0.toNat + b1.toNat + b2.toNat + b3.toNat + b4.toNat + b5.toNat + b6.toNat + b7.toNat := by decide +kernel
theorem byteOf_lt (f : Nat → Bool) (k : Nat) : byteOf f k < 256 := oct_lt _ _ _ _ _ _ _ _
theorem byteOf_bit (f : Nat → Bool) (k j : Nat) (hj : j < 8) : (byteOf f k).testBit j = f (8 * k + j) := by
  obtain ⟨h0, h1, h2, h3, h4, h5, h6, h7⟩ := oct_bit (f (8 * k)) (f (8 * k + 1)) (f (8 * k + 2)) (f (8 * k + 3)) (f (8 * k + 4)) (f (8 * k + 5)) (f (8 * k + 6)) (f (8 * k + 7))
  match j, hj with
  | 0, _ => exact h0
  | 1, _ => exact h1
  | 2, _ => exact h2
  | 3, _ => exact h3
  | 4, _ => exact h4
  | 5, _ => exact h5
  | 6, _ => exact h6
  | 7, _ => exact h7
theorem byte_eq {x y : Nat} (hx : x < 256) (hy : y < 256) (h : ∀ j, j < 8 → x.testBit j = y.testBit j) : x = y := by
  apply Nat.eq_of_testBit_eq
  intro j
  by_cases hj : j < 8
  · exact h j hj
  · have e : ∀ z : Nat, z < 256 → z.testBit j = false := fun z hz => Nat.testBit_lt_two_pow (Nat.lt_of_lt_of_le hz (by
      rw [show (256 : Nat) = 2 ^ 8 from rfl]
      exact Nat.pow_le_pow_right (by omega) (by omega)))
    rw [e x hx, e y hy]
theorem pk_length (f : Nat → Bool) (n : Nat) : (pk f n).length = n := by simp [pk]
theorem pk_getD (f : Nat → Bool) (n k : Nat) (h : k < n) : (pk f n).getD k 0 = byteOf f k := by simp [pk, List.getD, h]
theorem pk_get (f : Nat → Bool) (n k : Nat) (h : k < n) : (pk f n)[k]'(by rw [pk_length]; exact h) = byteOf f k := by simp [pk]
theorem pk_lt (f : Nat → Bool) (n : Nat) : ∀ x ∈ pk f n, x < 256 := by
  intro x hx
  simp only [pk, List.mem_map] at hx
  obtain ⟨k, _, rfl⟩ := hx
  exact byteOf_lt f k
theorem us_pk (f : Nat → Bool) (n i : Nat) (h : i < 8 * n) : us (pk f n) i = f i := by
  unfold us
  rw [pk_getD f n _ (by omega), byteOf_bit f _ _ (by omega)]
  congr 1
  omega
theorem byteOf_us (l : List Nat) (hl : ∀ x ∈ l, x < 256) (k : Nat) (hk : k < l.length) : byteOf (us l) k = l[k] := by
  refine byte_eq (byteOf_lt _ _) (hl _ (List.getElem_mem hk)) fun j hj => ?_
  rw [byteOf_bit _ _ _ hj]
  unfold us
  rw [show (8 * k + j) / 8 = k by omega, show (8 * k + j) % 8 = j by omega]
  simp [List.getD, hk]
theorem pk_us (l : List Nat) (hl : ∀ x ∈ l, x < 256) : pk (us l) l.length = l := by
  apply List.ext_getElem (by rw [pk_length])
  intro k h1 h2
  rw [pk_get _ _ _ h2, byteOf_us l hl k h2]
theorem byteOf_congr {f g : Nat → Bool} (k : Nat) (h : ∀ i, 8 * k ≤ i → i < 8 * k + 8 → f i = g i) : byteOf f k = byteOf g k := by
  unfold byteOf
  rw [h (8 * k) (by omega) (by omega), h (8 * k + 1) (by omega) (by omega), h (8 * k + 2) (by omega) (by omega), h (8 * k + 3) (by omega) (by omega), h (8 * k + 4) (by omega) (by omega), h (8 * k + 5) (by omega) (by omega), h (8 * k + 6) (by omega) (by omega), h (8 * k + 7) (by omega) (by omega)]
theorem pk_congr {f g : Nat → Bool} (n : Nat) (h : ∀ i, i < 8 * n → f i = g i) : pk f n = pk g n := by
  unfold pk
  apply List.map_congr_left
  intro k hk
  rw [List.mem_range] at hk
  exact byteOf_congr k fun i h1 h2 => h i (by omega)
theorem pk_inj {f g : Nat → Bool} (n : Nat) (h : pk f n = pk g n) : ∀ i, i < 8 * n → f i = g i := by
  intro i hi
  rw [← us_pk f n i hi, h, us_pk g n i hi]
theorem testBit_or_pow (x j i : Nat) : (x ||| 2 ^ j).testBit i = (x.testBit i || decide (j = i)) := by
  rw [Nat.testBit_or, Nat.testBit_two_pow]
theorem byteOf_set (f : Nat → Bool) (i : Nat) : byteOf f (i / 8) ||| 2 ^ (i % 8) = byteOf (upd f i true) (i / 8) := by
  have hp : 2 ^ (i % 8) < 256 := by
    rw [show (256 : Nat) = 2 ^ 8 from rfl]
    exact Nat.pow_lt_pow_right (by omega) (by omega)
  refine byte_eq (Nat.or_lt_two_pow (n := 8) (byteOf_lt _ _) hp) (byteOf_lt _ _) fun j hj => ?_
  rw [testBit_or_pow, byteOf_bit _ _ _ hj, byteOf_bit _ _ _ hj]
  unfold upd
  by_cases h : i % 8 = j
  · rw [if_pos (by omega)]; simp [h]
  · rw [if_neg (by omega)]; simp [h]
theorem byteOf_clear (f : Nat → Bool) (i : Nat) : byteOf f (i / 8) &&& (255 - 2 ^ (i % 8)) = byteOf (upd f i false) (i / 8) := by
  have h1 : ∀ j : Fin 8, ∀ k : Fin 8, (255 - 2 ^ j.val).testBit k.val = !decide (j = k) := by decide
  refine byte_eq (Nat.lt_of_le_of_lt Nat.and_le_left (byteOf_lt _ _)) (byteOf_lt _ _) fun j hj => ?_
  have h2 := h1 ⟨i % 8, by omega⟩ ⟨j, hj⟩
  simp only [Fin.mk.injEq] at h2
  rw [Nat.testBit_and, h2, byteOf_bit _ _ _ hj, byteOf_bit _ _ _ hj]
  unfold upd
  by_cases h : i % 8 = j
  · rw [if_pos (by omega)]; simp [h]
  · rw [if_neg (by omega)]; simp [h]
theorem byteOf_other (f : Nat → Bool) (i k : Nat) (v : Bool) (h : k ≠ i / 8) : byteOf (upd f i v) k = byteOf f k :=
  byteOf_congr k fun j h1 h2 => by unfold upd; rw [if_neg (by omega)]
theorem pk_upd (f : Nat → Bool) (n i : Nat) (v : Bool) : (pk f n).set (i / 8) (byteOf (upd f i v) (i / 8)) = pk (upd f i v) n := by
  apply List.ext_getElem (by rw [List.length_set, pk_length, pk_length])
  intro k h1 h2
  rw [pk_length] at h2
  rw [pk_get _ _ _ h2, List.getElem_set]
  by_cases hk : i / 8 = k
  · rw [if_pos hk, hk]
  · rw [if_neg hk, pk_get _ _ _ h2, byteOf_other _ _ _ _ (Ne.symm hk)]

/-- How many of the first n blocks are in use. -/
def cnt (f : Nat → Bool) : Nat → Nat
  | 0 => 0
  | n + 1 => cnt f n + (f n).toNat
theorem cnt_eight (f : Nat → Bool) (k : Nat) : cnt f (8 * (k + 1)) = cnt f (8 * k) + Lib.onesCount (byteOf f k) := by
  have e : byteOf f k = oct (f (8 * k)) (f (8 * k + 1)) (f (8 * k + 2)) (f (8 * k + 3)) (f (8 * k + 4)) (f (8 * k + 5)) (f (8 * k + 6)) (f (8 * k + 7)) := rfl
  rw [e, oct_ones, show 8 * (k + 1) = 8 * k + 8 by omega]
  simp only [cnt]
  omega
theorem cnt_le (f : Nat → Bool) : ∀ n, cnt f n ≤ n
  | 0 => Nat.le_refl _
  | n + 1 => by have := cnt_le f n; have := Bool.toNat_le (f n); simp only [cnt]; omega
theorem cnt_flat {f : Nat → Bool} {T : Nat} (h : ∀ i, T ≤ i → f i = false) : ∀ n, T ≤ n → cnt f n = cnt f T
  | 0, hn => by rw [show T = 0 by omega]
  | n + 1, hn => by
    by_cases e : T = n + 1
    · rw [e]
    · simp only [cnt]
      rw [h n (by omega), cnt_flat h n (by omega)]
      rfl
/-- The free blocks below i. -/
def frees (f : Nat → Bool) : Nat → List Nat
  | 0 => []
  | n + 1 => frees f n ++ (if f n then [] else [n])
theorem frees_length (f : Nat → Bool) : ∀ n, (frees f n).length + cnt f n = n
  | 0 => rfl
  | n + 1 => by
    have := frees_length f n
    simp only [frees, cnt, List.length_append]
    cases f n <;> simp <;> omega
theorem frees_lt (f : Nat → Bool) : ∀ n, ∀ x ∈ frees f n, x < n ∧ f x = false
  | 0, x, h => by simp [frees] at h
  | n + 1, x, h => by
    simp only [frees, List.mem_append] at h
    rcases h with h | h
    · have := frees_lt f n x h; exact ⟨by omega, this.2⟩
    · cases e : f n <;> simp [e] at h
      subst h
      exact ⟨by omega, e⟩
theorem frees_mem (f : Nat → Bool) : ∀ n x, x < n → f x = false → x ∈ frees f n
  | 0, x, h, _ => by omega
  | n + 1, x, h, hf => by
    simp only [frees, List.mem_append]
    by_cases e : x = n
    · subst e; right; simp [hf]
    · left; exact frees_mem f n x (by omega) hf
theorem frees_len_mono (f : Nat → Bool) (n : Nat) : ∀ m, n ≤ m → (frees f n).length ≤ (frees f m).length
  | 0, h => by rw [show n = 0 by omega]; exact Nat.le_refl _
  | m + 1, h => by
    by_cases e : n = m + 1
    · rw [e]; exact Nat.le_refl _
    · have := frees_len_mono f n m (by omega)
      simp only [frees, List.length_append]
      omega
theorem frees_pre (f : Nat → Bool) (n : Nat) : ∀ m, n ≤ m → ∃ t, frees f m = frees f n ++ t
  | 0, h => ⟨[], by rw [show n = 0 by omega]; simp⟩
  | m + 1, h => by
    by_cases e : n = m + 1
    · exact ⟨[], by rw [e]; simp⟩
    · obtain ⟨t, ht⟩ := frees_pre f n m (by omega)
      exact ⟨t ++ (if f m then [] else [m]), by simp only [frees]; rw [ht, List.append_assoc]⟩
theorem frees_sorted (f : Nat → Bool) : ∀ n, (frees f n).Pairwise (· < ·)
  | 0 => List.Pairwise.nil
  | n + 1 => by
    simp only [frees]
    rw [List.pairwise_append]
    refine ⟨frees_sorted f n, by cases f n <;> simp, fun x hx y hy => ?_⟩
    have h1 := (frees_lt f n x hx).1
    cases e : f n <;> simp [e] at hy
    omega
/-- The map with all blocks below i in use. -/
def fillTo (f : Nat → Bool) (i : Nat) : Nat → Bool := fun j => f j || decide (j < i)
theorem fillTo_zero (f : Nat → Bool) : fillTo f 0 = f := by funext j; simp [fillTo]
theorem fillTo_used (f : Nat → Bool) (i : Nat) (h : f i = true) : fillTo f (i + 1) = fillTo f i := by
  funext j
  unfold fillTo
  by_cases e : j = i
  · subst e; simp [h]
  · by_cases h1 : j < i
    · simp [h1, show j < i + 1 by omega]
    · simp [h1, show ¬ j < i + 1 by omega]
theorem fillTo_free (f : Nat → Bool) (i : Nat) : upd (fillTo f i) i true = fillTo f (i + 1) := by
  funext j
  unfold upd fillTo
  by_cases e : j = i
  · subst e; simp
  · rw [if_neg e]
    by_cases h1 : j < i
    · simp [h1, show j < i + 1 by omega]
    · simp [h1, show ¬ j < i + 1 by omega]
theorem fillTo_at (f : Nat → Bool) (i : Nat) : fillTo f i i = f i := by simp [fillTo]

/-- A map in form: no bit is set from T on. -/
def flat (f : Nat → Bool) (T : Nat) : Prop := ∀ i, T ≤ i → f i = false
end Go.Proofs.Ytpkajmgfechhhaa
