/- Plain mathematics of maps of bits: runs of free blocks, the best run, giving back, turning, the form of a map. No condition; no program. -/
import Derived.Test.YtpkajmgfechhhaaMapM
namespace Go.Proofs.Ytpkajmgfechhhaa

/-- How many blocks right ahead of i are free; the runs that are over by i; the runs if i were in use. -/
def lng (f : Nat → Bool) : Nat → Nat
  | 0 => 0
  | i + 1 => if f i then 0 else lng f i + 1
def shutAt (c : List (Nat × Nat)) (i n : Nat) : List (Nat × Nat) := if 0 < n then c ++ [(i - n, n)] else c
def clo (f : Nat → Bool) : Nat → List (Nat × Nat)
  | 0 => []
  | i + 1 => if f i then shutAt (clo f i) i (lng f i) else clo f i
def runsN (f : Nat → Bool) (T : Nat) : List (Nat × Nat) := shutAt (clo f T) T (lng f T)
theorem lng_le (f : Nat → Bool) : ∀ i, lng f i ≤ i
  | 0 => Nat.le_refl _
  | i + 1 => by have := lng_le f i; unfold lng; split <;> omega
theorem lng_free (f : Nat → Bool) : ∀ i j, i - lng f i ≤ j → j < i → f j = false
  | 0, j, _, h => by omega
  | i + 1, j, h1, h2 => by
    have hl := lng_le f i
    by_cases e : f i = true
    · simp only [lng, e, if_true] at h1; omega
    · have e' : f i = false := by simpa using e
      by_cases hj : j = i
      · rw [hj, e']
      · refine lng_free f i j ?_ (by omega)
        simp only [lng, e', Bool.false_eq_true, if_false] at h1
        omega
theorem lng_before (f : Nat → Bool) : ∀ i, lng f i < i → f (i - lng f i - 1) = true
  | 0, h => by omega
  | i + 1, h => by
    have hl := lng_le f i
    by_cases e : f i = true
    · simp only [lng, e, if_true]; simpa using e
    · have e' : f i = false := by simpa using e
      simp only [lng, e', Bool.false_eq_true, if_false] at h ⊢
      have := lng_before f i (by omega)
      rw [show i + 1 - (lng f i + 1) - 1 = i - lng f i - 1 by omega]
      exact this
theorem lng_zero (f : Nat → Bool) (i : Nat) (h : 0 < i) : lng f i = 0 ↔ f (i - 1) = true := by
  obtain ⟨j, rfl⟩ : ∃ j, i = j + 1 := ⟨i - 1, by omega⟩
  simp only [lng, Nat.add_sub_cancel]
  by_cases e : f j = true <;> simp [e]
/-- What holds of the runs that are over by i. -/
def okRuns (f : Nat → Bool) (i : Nat) (l : List (Nat × Nat)) : Prop :=
  (∀ r ∈ l, 1 ≤ r.2 ∧ r.1 + r.2 ≤ i ∧ ∀ j, r.1 ≤ j → j < r.1 + r.2 → f j = false) ∧ l.Pairwise (fun a b => a.1 + a.2 < b.1)
theorem clo_ok (f : Nat → Bool) : ∀ i, okRuns f i (clo f i) ∧ ∀ r ∈ clo f i, r.1 + r.2 < i - lng f i
  | 0 => ⟨⟨by simp [clo], by simp [clo]⟩, by simp [clo]⟩
  | i + 1 => by
    obtain ⟨⟨h1, h2⟩, h3⟩ := clo_ok f i
    have hl := lng_le f i
    by_cases e : f i = true
    · simp only [clo, lng, e, if_true]
      unfold shutAt
      by_cases hp : 0 < lng f i
      · rw [if_pos hp]
        refine ⟨⟨?_, ?_⟩, ?_⟩
        · intro r hr
          rcases List.mem_append.1 hr with hr | hr
          · obtain ⟨a, b, c⟩ := h1 r hr; exact ⟨a, by omega, c⟩
          · rw [List.mem_singleton] at hr
            subst hr
            exact ⟨hp, by simp; omega, fun j hj1 hj2 => lng_free f i j hj1 (by simp at hj2; omega)⟩
        · rw [List.pairwise_append]
          refine ⟨h2, List.pairwise_singleton _ _, fun a ha b hb => ?_⟩
          rw [List.mem_singleton] at hb
          subst hb
          exact h3 a ha
        · intro r hr
          rcases List.mem_append.1 hr with hr | hr
          · have := h3 r hr; omega
          · rw [List.mem_singleton] at hr
            subst hr
            simp; omega
      · rw [if_neg hp]
        exact ⟨⟨fun r hr => ⟨(h1 r hr).1, by have := (h1 r hr).2.1; omega, (h1 r hr).2.2⟩, h2⟩, fun r hr => by have := h3 r hr; omega⟩
    · have e' : f i = false := by simpa using e
      simp only [clo, lng, e', Bool.false_eq_true, if_false]
      exact ⟨⟨fun r hr => ⟨(h1 r hr).1, by have := (h1 r hr).2.1; omega, (h1 r hr).2.2⟩, h2⟩, fun r hr => by have := h3 r hr; omega⟩
theorem runsN_ok (f : Nat → Bool) (T : Nat) : okRuns f T (runsN f T) := by
  obtain ⟨⟨h1, h2⟩, h3⟩ := clo_ok f T
  have hl := lng_le f T
  unfold runsN shutAt
  by_cases hp : 0 < lng f T
  · rw [if_pos hp]
    refine ⟨fun r hr => ?_, ?_⟩
    · rcases List.mem_append.1 hr with hr | hr
      · exact h1 r hr
      · rw [List.mem_singleton] at hr
        subst hr
        exact ⟨hp, by simp; omega, fun j hj1 hj2 => lng_free f T j hj1 (by simp at hj2; omega)⟩
    · rw [List.pairwise_append]
      refine ⟨h2, List.pairwise_singleton _ _, fun a ha b hb => ?_⟩
      rw [List.mem_singleton] at hb
      subst hb
      exact h3 a ha
  · rw [if_neg hp]; exact ⟨h1, h2⟩
def sumR (l : List (Nat × Nat)) : Nat := (l.map (·.2)).sum
theorem sumR_snoc (l : List (Nat × Nat)) (r : Nat × Nat) : sumR (l ++ [r]) = sumR l + r.2 := by simp [sumR]
theorem clo_sum (f : Nat → Bool) : ∀ i, sumR (clo f i) + lng f i = (frees f i).length
  | 0 => rfl
  | i + 1 => by
    have h := clo_sum f i
    by_cases e : f i = true
    · simp only [clo, lng, frees, e, if_true, List.append_nil]
      unfold shutAt
      by_cases hp : 0 < lng f i
      · rw [if_pos hp, sumR_snoc]; simp only; omega
      · rw [if_neg hp]; omega
    · have e' : f i = false := by simpa using e
      simp only [clo, lng, frees, e', Bool.false_eq_true, if_false, List.length_append, List.length_singleton]
      omega
theorem runsN_sum (f : Nat → Bool) (T : Nat) : sumR (runsN f T) = (frees f T).length := by
  have h := clo_sum f T
  unfold runsN shutAt
  by_cases hp : 0 < lng f T
  · rw [if_pos hp, sumR_snoc]; exact h
  · rw [if_neg hp]; omega
theorem clo_cover (f : Nat → Bool) : ∀ i x, x < i - lng f i → f x = false → ∃ r ∈ clo f i, r.1 ≤ x ∧ x < r.1 + r.2
  | 0, x, h, _ => by omega
  | i + 1, x, h, hx => by
    have hl := lng_le f i
    by_cases e : f i = true
    · simp only [clo, lng, e, if_true] at h ⊢
      have hxi : x ≠ i := by rintro rfl; rw [e] at hx; cases hx
      unfold shutAt
      by_cases hin : x < i - lng f i
      · obtain ⟨r, hr, hh⟩ := clo_cover f i x hin hx
        split
        · exact ⟨r, List.mem_append_left _ hr, hh⟩
        · exact ⟨r, hr, hh⟩
      · rw [if_pos (by omega)]
        exact ⟨(i - lng f i, lng f i), by simp, by simp; omega, by simp; omega⟩
    · have e' : f i = false := by simpa using e
      simp only [clo, lng, e', Bool.false_eq_true, if_false] at h ⊢
      exact clo_cover f i x (by omega) hx
theorem runsN_cover (f : Nat → Bool) (T x : Nat) (h : x < T) (hx : f x = false) : ∃ r ∈ runsN f T, r.1 ≤ x ∧ x < r.1 + r.2 := by
  have hl := lng_le f T
  unfold runsN shutAt
  by_cases hin : x < T - lng f T
  · obtain ⟨r, hr, hh⟩ := clo_cover f T x hin hx
    split
    · exact ⟨r, List.mem_append_left _ hr, hh⟩
    · exact ⟨r, hr, hh⟩
  · rw [if_pos (by omega)]
    exact ⟨(T - lng f T, lng f T), by simp, by simp; omega, by simp; omega⟩

/-- The reference's runs: each told whole at its first block. -/
def fullAux (f : Nat → Bool) (s : Nat) : Nat → Nat
  | 0 => 0
  | k + 1 => if f s then 0 else 1 + fullAux f (s + 1) k
def full (f : Nat → Bool) (T s : Nat) : Nat := fullAux f s (T - s)
theorem fullAux_of (f : Nat → Bool) : ∀ (k s n : Nat), n ≤ k → (∀ j, j < n → f (s + j) = false) → (n = k ∨ f (s + n) = true) → fullAux f s k = n
  | 0, s, n, h, _, _ => by simp [fullAux]; omega
  | k + 1, s, n, h, hf, he => by
    unfold fullAux
    rcases n with _ | n
    · rcases he with he | he
      · omega
      · rw [Nat.add_zero] at he; simp [he]
    · have h0 := hf 0 (by omega)
      rw [Nat.add_zero] at h0
      rw [h0]
      simp only [Bool.false_eq_true, if_false]
      rw [fullAux_of f k (s + 1) n (by omega) (fun j hj => by rw [show s + 1 + j = s + (j + 1) by omega]; exact hf (j + 1) (by omega)) (by
        rcases he with he | he
        · left; omega
        · right; rw [show s + 1 + n = s + (n + 1) by omega]; exact he)]
      omega
theorem full_of {f : Nat → Bool} {T s n : Nat} (h : s + n ≤ T) (hf : ∀ j, j < n → f (s + j) = false) (he : s + n = T ∨ f (s + n) = true) : full f T s = n :=
  fullAux_of f (T - s) s n (by omega) hf (by rcases he with he | he; left; omega; right; exact he)
def refUp (f : Nat → Bool) (T i : Nat) : List (Nat × Nat) := if 0 < lng f i then clo f i ++ [(i - lng f i, full f T (i - lng f i))] else clo f i
theorem refUp_zero (f : Nat → Bool) (T : Nat) : refUp f T 0 = [] := rfl
theorem refUp_used (f : Nat → Bool) (T i : Nat) (hi : i < T) (e : f i = true) : refUp f T (i + 1) = refUp f T i := by
  have hl := lng_le f i
  unfold refUp
  simp only [clo, lng, e, if_true, Nat.lt_irrefl, if_false, shutAt]
  by_cases hp : 0 < lng f i
  · rw [if_pos hp, if_pos hp, full_of (n := lng f i) (by omega) (fun j hj => lng_free f i _ (by omega) (by omega)) (by right; rw [show i - lng f i + lng f i = i by omega]; exact e)]
  · rw [if_neg hp, if_neg hp]
theorem refUp_first (f : Nat → Bool) (T i n : Nat) (hn : i + n ≤ T) (hf : ∀ j, j < n → f (i + j) = false) (he : i + n = T ∨ f (i + n) = true) (e : f i = false) (h0 : lng f i = 0) : refUp f T (i + 1) = refUp f T i ++ [(i, n)] := by
  unfold refUp
  simp only [clo, lng, e, h0, Bool.false_eq_true, if_false]
  rw [if_pos (by omega), if_neg (by omega), show i + 1 - (0 + 1) = i by omega, full_of hn hf he]
theorem refUp_next (f : Nat → Bool) (T i : Nat) (e : f i = false) (h0 : lng f i ≠ 0) : refUp f T (i + 1) = refUp f T i := by
  unfold refUp
  simp only [clo, lng, e, Bool.false_eq_true, if_false]
  rw [if_pos (by omega), if_pos (by omega), show i + 1 - (lng f i + 1) = i - lng f i by omega]
theorem refUp_end (f : Nat → Bool) (T : Nat) : refUp f T T = runsN f T := by
  have hl := lng_le f T
  unfold refUp runsN shutAt
  by_cases hp : 0 < lng f T
  · rw [if_pos hp, if_pos hp, full_of (n := lng f T) (by omega) (fun j hj => lng_free f T _ (by omega) (by omega)) (by left; omega)]
  · rw [if_neg hp, if_neg hp]

/-- The shortest run of at least n blocks, of several the first; (0, 0): none. -/
def bstep (n : Nat) (b r : Nat × Nat) : Nat × Nat := if n ≤ r.2 ∧ (b.2 = 0 ∨ r.2 < b.2) then r else b
def best (n : Nat) (l : List (Nat × Nat)) : Nat × Nat := l.foldl (bstep n) (0, 0)
theorem best_snoc (n : Nat) (l : List (Nat × Nat)) (r : Nat × Nat) : best n (l ++ [r]) = bstep n (best n l) r := by simp [best]
theorem best_ok (n : Nat) (hn : 1 ≤ n) (l : List (Nat × Nat)) : ((best n l).2 = 0 → best n l = (0, 0) ∧ ∀ r ∈ l, r.2 < n) ∧ ((best n l).2 ≠ 0 → best n l ∈ l ∧ n ≤ (best n l).2) := by
  suffices h : ∀ k, k ≤ l.length → ((best n (l.take k)).2 = 0 → best n (l.take k) = (0, 0) ∧ ∀ r ∈ l.take k, r.2 < n) ∧ ((best n (l.take k)).2 ≠ 0 → best n (l.take k) ∈ l.take k ∧ n ≤ (best n (l.take k)).2) by
    have := h l.length (Nat.le_refl _)
    rwa [List.take_length] at this
  intro k
  induction k with
  | zero => intro _; simp [best]
  | succ k ih =>
    intro hk
    obtain ⟨h1, h2⟩ := ih (by omega)
    rw [List.take_succ_eq_append_getElem (show k < l.length by omega), best_snoc]
    generalize l.take k = p at *
    generalize l[k] = r at *
    unfold bstep
    by_cases hc : n ≤ r.2 ∧ ((best n p).2 = 0 ∨ r.2 < (best n p).2)
    · rw [if_pos hc]
      exact ⟨fun h => by omega, fun _ => ⟨by simp, hc.1⟩⟩
    · rw [if_neg hc]
      refine ⟨fun h => ⟨(h1 h).1, fun q hq => ?_⟩, fun h => ⟨List.mem_append_left _ (h2 h).1, (h2 h).2⟩⟩
      rcases List.mem_append.1 hq with hq | hq
      · exact (h1 h).2 q hq
      · rw [List.mem_singleton] at hq
        subst hq
        omega

/-- Giving back, one behind the other: 0, or the error's number. -/
def giveE (T : Nat) : (Nat → Bool) → List Int → Nat
  | _, [] => 0
  | f, b :: l => if b < 0 ∨ (T : Int) ≤ b then 1 else if f b.toNat = false then 6 else giveE T (upd f b.toNat false) l
def giveF (f : Nat → Bool) (l : List Int) : Nat → Bool := l.foldl (fun g i => upd g i.toNat false) f
def turnF (f : Nat → Bool) (l : List Int) : Nat → Bool := l.foldl (fun g i => upd g i.toNat (!g i.toNat)) f
theorem giveF_at (l : List Int) : ∀ (f : Nat → Bool) (j : Nat), giveF f l j = (f j && l.all fun b => b.toNat != j) := by
  induction l with
  | nil => intro f j; simp [giveF]
  | cons b l ih =>
    intro f j
    have h := ih (upd f b.toNat false) j
    simp only [giveF, List.foldl_cons] at h ⊢
    rw [h]
    simp only [upd, List.all_cons]
    by_cases e : j = b.toNat
    · subst e; simp
    · have e2 : (b.toNat != j) = true := by simp; omega
      rw [if_neg e, e2, Bool.true_and]
theorem turn_give (T : Nat) (l : List Int) : ∀ f, giveE T f l = 0 → turnF f l = giveF f l ∧ ∀ b ∈ l, 0 ≤ b ∧ b < T := by
  induction l with
  | nil => intro f _; exact ⟨rfl, by simp⟩
  | cons b l ih =>
    intro f h
    unfold giveE at h
    split at h
    · omega
    · rename_i hr
      split at h
      · omega
      · rename_i hu
        obtain ⟨h1, h2⟩ := ih _ h
        refine ⟨?_, fun c hc => ?_⟩
        · simp only [turnF, giveF, List.foldl_cons]
          have e : (!f b.toNat) = false := by simpa using hu
          rw [e]
          exact h1
        · rcases List.mem_cons.1 hc with rfl | hc
          · omega
          · exact h2 c hc
theorem giveE_ok (T : Nat) (l : List Nat) : ∀ f : Nat → Bool, l.Nodup → (∀ b ∈ l, b < T ∧ f b = true) → giveE T f (l.map fun (x : Nat) => (x : Int)) = 0 := by
  induction l with
  | nil => intro f _ _; rfl
  | cons b l ih =>
    intro f hn h
    rw [List.nodup_cons] at hn
    have hb := h b (List.mem_cons_self ..)
    simp only [List.map_cons, giveE, Int.toNat_natCast]
    rw [if_neg (by omega), if_neg (by rw [hb.2]; simp)]
    refine ih _ hn.2 fun c hc => ?_
    have hc' := h c (List.mem_cons_of_mem _ hc)
    refine ⟨hc'.1, ?_⟩
    unfold upd
    rw [if_neg (by rintro rfl; exact hn.1 hc)]
    exact hc'.2
/-- What the reference asks of a list, entry by entry. -/
def badAt (T : Nat) (f : Nat → Bool) (l : List Int) (i : Nat) (b : Int) : Nat := if b < 0 ∨ (T : Int) ≤ b then 1 else if f b.toNat = false then 6 else if b ∈ l.take i then 6 else 0
theorem giveE_split (T : Nat) (f : Nat → Bool) (l : List Int) (i : Nat) (hi : i < l.length) (hok : ∀ b ∈ l.take i, 0 ≤ b ∧ b < T) :
    giveE T (giveF f (l.take i)) (l.drop i) = if badAt T f l i l[i] = 0 then giveE T (giveF f (l.take (i + 1))) (l.drop (i + 1)) else badAt T f l i l[i] := by
  rw [List.drop_eq_getElem_cons hi]
  simp only [giveE]
  unfold badAt
  by_cases h1 : l[i] < 0 ∨ (T : Int) ≤ l[i]
  · rw [if_pos h1, if_pos h1, if_neg (by omega)]
  · rw [if_neg h1, if_neg h1]
    have e1 : giveF f (l.take (i + 1)) = upd (giveF f (l.take i)) l[i].toNat false := by
      rw [List.take_succ_eq_append_getElem hi]
      unfold giveF
      rw [List.foldl_append]
      rfl
    rw [e1, giveF_at]
    by_cases h2 : f l[i].toNat = false
    · rw [if_pos (by simp [h2]), if_pos h2, if_neg (by omega)]
    · have h2' : f l[i].toNat = true := by simpa using h2
      rw [if_neg h2, h2', Bool.true_and]
      by_cases h3 : l[i] ∈ l.take i
      · have : ((l.take i).all fun b => b.toNat != l[i].toNat) = false := by
          rw [List.all_eq_false]
          exact ⟨l[i], h3, by simp⟩
        rw [if_pos this, if_pos h3, if_neg (by omega)]
      · have : ¬ ((l.take i).all fun b => b.toNat != l[i].toNat) = false := by
          rw [Bool.not_eq_false, List.all_eq_true]
          intro b hb
          have := hok b hb
          simp only [bne_iff_ne]
          intro e
          exact h3 (by rw [show l[i] = b by omega]; exact hb)
        rw [if_neg this, if_neg h3, if_pos rfl]
theorem frees_nodup (f : Nat → Bool) (n : Nat) : (frees f n).Nodup := (frees_sorted f n).imp (fun h => by omega)
theorem turnF_frees (f : Nat → Bool) : ∀ i, turnF f ((frees f i).map fun (x : Nat) => (x : Int)) = fillTo f i
  | 0 => by rw [fillTo_zero]; rfl
  | i + 1 => by
    have h := turnF_frees f i
    unfold turnF at h ⊢
    simp only [frees]
    by_cases e : f i = true
    · rw [e, if_pos rfl, List.append_nil, h, fillTo_used f i e]
    · have e' : f i = false := by simpa using e
      rw [e']
      simp only [Bool.false_eq_true, if_false, List.map_append, List.map_cons, List.map_nil, List.foldl_append, List.foldl_cons, List.foldl_nil, Int.toNat_natCast]
      rw [h, fillTo_at, e', ← fillTo_free]
      rfl
theorem giveF_frees (f : Nat → Bool) (i : Nat) : giveF (fillTo f i) ((frees f i).map fun (x : Nat) => (x : Int)) = f := by
  funext j
  rw [giveF_at]
  by_cases h : j ∈ frees f i
  · have h1 := frees_lt f i j h
    have : (((frees f i).map fun (x : Nat) => (x : Int)).all fun b => b.toNat != j) = false := by
      rw [List.all_eq_false]
      exact ⟨(j : Int), List.mem_map.2 ⟨j, h, rfl⟩, by simp⟩
    rw [this, Bool.and_false, h1.2]
  · have : (((frees f i).map fun (x : Nat) => (x : Int)).all fun b => b.toNat != j) = true := by
      rw [List.all_eq_true]
      intro b hb
      simp only [List.mem_map] at hb
      obtain ⟨x, hx, rfl⟩ := hb
      simp only [bne_iff_ne, Int.toNat_natCast]
      rintro rfl
      exact h hx
    rw [this, Bool.and_true]
    unfold fillTo
    by_cases hj : j < i
    · by_cases e : f j = true
      · simp [e]
      · exact absurd (frees_mem f i j hj (by simpa using e)) h
    · simp [hj]
/-- A run taken. -/
def fillRun (f : Nat → Bool) (b n : Nat) : Nat → Bool := fun j => f j || decide (b ≤ j ∧ j < b + n)
def runL (b n : Nat) : List Nat := (List.range n).map (b + ·)
theorem runL_snoc (b n : Nat) : runL b (n + 1) = runL b n ++ [b + n] := by simp [runL, List.range_succ]
theorem fillRun_zero (f : Nat → Bool) (b : Nat) : fillRun f b 0 = f := by
  funext j
  unfold fillRun
  rw [show decide (b ≤ j ∧ j < b + 0) = false by rw [decide_eq_false_iff_not]; omega, Bool.or_false]
theorem fillRun_succ (f : Nat → Bool) (b n : Nat) : upd (fillRun f b n) (b + n) true = fillRun f b (n + 1) := by
  funext j
  unfold upd fillRun
  by_cases e : j = b + n
  · subst e
    rw [if_pos rfl, show decide (b ≤ b + n ∧ b + n < b + (n + 1)) = true by simp, Bool.or_true]
  · rw [if_neg e]
    congr 1
    rw [decide_eq_decide]
    omega
theorem turnF_run (f : Nat → Bool) (b n : Nat) (h : ∀ j, b ≤ j → j < b + n → f j = false) : turnF f ((runL b n).map fun (x : Nat) => (x : Int)) = fillRun f b n := by
  suffices hs : ∀ k, k ≤ n → turnF f ((runL b k).map fun (x : Nat) => (x : Int)) = fillRun f b k from hs n (Nat.le_refl _)
  intro k
  induction k with
  | zero => intro _; rw [fillRun_zero]; rfl
  | succ k ih =>
    intro hk
    have h1 := ih (by omega)
    unfold turnF at h1 ⊢
    rw [runL_snoc, List.map_append, List.foldl_append, h1]
    simp only [List.map_cons, List.map_nil, List.foldl_cons, List.foldl_nil, Int.toNat_natCast]
    have h2 : fillRun f b k (b + k) = false := by
      unfold fillRun
      rw [h (b + k) (by omega) (by omega)]
      simp
    rw [h2, ← fillRun_succ]
    rfl
theorem runL_nodup (b n : Nat) : (runL b n).Nodup := by
  unfold runL
  rw [List.nodup_iff_pairwise_ne, List.pairwise_map]
  exact (List.pairwise_lt_range (n := n)).imp (fun h => by omega)
theorem runL_mem (b n x : Nat) : x ∈ runL b n ↔ b ≤ x ∧ x < b + n := by
  simp only [runL, List.mem_map, List.mem_range]
  constructor
  · rintro ⟨a, h, rfl⟩; omega
  · rintro ⟨h1, h2⟩; exact ⟨x - b, by omega, by omega⟩
theorem giveF_run (f : Nat → Bool) (b n : Nat) (h : ∀ j, b ≤ j → j < b + n → f j = false) : giveF (fillRun f b n) ((runL b n).map fun (x : Nat) => (x : Int)) = f := by
  funext j
  rw [giveF_at]
  by_cases hj : j ∈ runL b n
  · have : (((runL b n).map fun (x : Nat) => (x : Int)).all fun b => b.toNat != j) = false := by
      rw [List.all_eq_false]
      exact ⟨(j : Int), List.mem_map.2 ⟨j, hj, rfl⟩, by simp⟩
    rw [runL_mem] at hj
    rw [this, Bool.and_false, h j hj.1 hj.2]
  · have : (((runL b n).map fun (x : Nat) => (x : Int)).all fun b => b.toNat != j) = true := by
      rw [List.all_eq_true]
      intro b hb
      simp only [List.mem_map] at hb
      obtain ⟨x, hx, rfl⟩ := hb
      simp only [bne_iff_ne, Int.toNat_natCast]
      rintro rfl
      exact hj hx
    rw [runL_mem] at hj
    rw [this, Bool.and_true]
    unfold fillRun
    rw [show decide (b ≤ j ∧ j < b + n) = false by simpa using hj, Bool.or_false]

/-- The form of a map: 0, or the error's number. -/
def spare (T : Nat) (l : List Nat) : Bool := (List.range (8 * l.length)).any fun i => decide (T ≤ i) && us l i
def chk (T : Int) (l : List Nat) : Nat := if T < 0 ∨ 2048 < T then 1 else if l.length ≠ (T.toNat + 7) / 8 then 4 else if spare T.toNat l then 4 else 0
theorem byte_high : ∀ (x : Fin 256) (r : Fin 8), (x.val / 2 ^ r.val ≠ 0) ↔ ∃ j : Fin 8, r ≤ j ∧ x.val.testBit j.val = true := by decide +kernel
theorem spare_last (T : Nat) (l : List Nat) (hl : ∀ x ∈ l, x < 256) (hlen : l.length = (T + 7) / 8) (hr : 0 < T % 8) (hp : l.length - 1 < l.length) : spare T l = decide (l[l.length - 1] / 2 ^ (T % 8) ≠ 0) := by
  have hb := byte_high ⟨l[l.length - 1], hl _ (List.getElem_mem hp)⟩ ⟨T % 8, by omega⟩
  simp only at hb
  rw [Bool.eq_iff_iff, decide_eq_true_iff, hb]
  unfold spare
  rw [List.any_eq_true]
  constructor
  · rintro ⟨i, hi, h⟩
    rw [List.mem_range] at hi
    simp only [Bool.and_eq_true, decide_eq_true_eq] at h
    refine ⟨⟨i % 8, by omega⟩, by show T % 8 ≤ i % 8; omega, ?_⟩
    have h2 := h.2
    unfold us at h2
    rw [show i / 8 = l.length - 1 by omega] at h2
    simpa [List.getD, hp] using h2
  · rintro ⟨j, hj, h⟩
    have hj' : T % 8 ≤ j.val := hj
    refine ⟨8 * (l.length - 1) + j.val, by rw [List.mem_range]; omega, ?_⟩
    simp only [Bool.and_eq_true, decide_eq_true_eq]
    refine ⟨by omega, ?_⟩
    unfold us
    rw [show (8 * (l.length - 1) + j.val) / 8 = l.length - 1 by omega, show (8 * (l.length - 1) + j.val) % 8 = j.val by omega]
    simpa [List.getD, hp] using h
theorem spare_even (T : Nat) (l : List Nat) (hlen : l.length = (T + 7) / 8) (hr : T % 8 = 0) : spare T l = false := by
  unfold spare
  rw [List.any_eq_false]
  intro i hi
  rw [List.mem_range] at hi
  have : ¬ T ≤ i := by omega
  simp [this]
/-- What a map in form says. -/
def fOf (T : Nat) (l : List Nat) : Nat → Bool := fun i => decide (i < T) && us l i
theorem fOf_flat (T : Nat) (l : List Nat) : flat (fOf T l) T := fun i h => by simp [fOf, Nat.not_lt.2 h]
theorem chk_pk (T : Int) (l : List Nat) (hl : ∀ x ∈ l, x < 256) (h : chk T l = 0) : 0 ≤ T ∧ T ≤ 2048 ∧ l.length = (T.toNat + 7) / 8 ∧ l = pk (fOf T.toNat l) l.length := by
  unfold chk at h
  split at h
  · omega
  · split at h
    · omega
    · split at h
      · omega
      · rename_i h1 h2 h3
        refine ⟨by omega, by omega, by omega, ?_⟩
        conv => lhs; rw [← pk_us l hl]
        refine pk_congr _ fun i hi => ?_
        unfold fOf
        by_cases e : i < T.toNat
        · simp [e]
        · have h4 : spare T.toNat l = false := by simpa using h3
          unfold spare at h4
          rw [List.any_eq_false] at h4
          have := h4 i (by rw [List.mem_range]; exact hi)
          simp only [e, decide_false, Bool.false_and]
          simpa [Nat.not_lt.1 e] using this
theorem pk_chk (T : Nat) (f : Nat → Bool) (hf : flat f T) (hT : T ≤ 2048) : chk (T : Int) (pk f ((T + 7) / 8)) = 0 ∧ ∀ i, fOf T (pk f ((T + 7) / 8)) i = f i := by
  constructor
  · unfold chk
    rw [if_neg (by omega), Int.toNat_natCast, pk_length, if_neg (by omega), if_neg]
    rw [Bool.not_eq_true]
    unfold spare
    rw [List.any_eq_false]
    intro i hi
    rw [List.mem_range, pk_length] at hi
    rw [us_pk _ _ _ hi]
    by_cases e : T ≤ i
    · simp [hf i e]
    · simp [e]
  · intro i
    unfold fOf
    by_cases e : i < T
    · rw [us_pk _ _ _ (by omega)]; simp [e]
    · simp [e, hf i (by omega)]
end Go.Proofs.Ytpkajmgfechhhaa
