/- What a token says, as plain data: texts cut at full stops, numbers as they are written in decimal. Plain facts. No condition. -/
import Derived.Lib.ItoaMem
import Derived.Lib.AtoiAllCases
import Derived.Lib.Bytealg
namespace Go.Proofs.YtbpclifgafafdaaDoor

/-! ### Cut at a full stop -/
def cutD : List UInt8 → List UInt8 × List UInt8 × Bool
  | [] => ([], [], false)
  | c :: r => if c = 46 then ([], r, true) else (c :: (cutD r).1, (cutD r).2.1, (cutD r).2.2)
def splitD : List UInt8 → List (List UInt8)
  | [] => [[]]
  | c :: r => if c = 46 then [] :: splitD r else match splitD r with | h :: t => (c :: h) :: t | [] => [[c]]
theorem splitD_cut (l : List UInt8) : splitD l = if (cutD l).2.2 = true then (cutD l).1 :: splitD (cutD l).2.1 else [l] := by
  induction l with
  | nil => rfl
  | cons c r ih =>
    by_cases h : c = 46
    · subst h; simp [splitD, cutD]
    · simp only [splitD, cutD, if_neg h]
      rw [ih]
      by_cases h2 : (cutD r).2.2 = true
      · rw [if_pos h2, if_pos h2]
      · rw [if_neg h2, if_neg h2]
theorem cutD_none {l : List UInt8} (h : (cutD l).2.2 = false) : (cutD l).1 = l ∧ (cutD l).2.1 = [] := by
  induction l with
  | nil => exact ⟨rfl, rfl⟩
  | cons c r ih =>
    by_cases h1 : c = 46
    · subst h1; simp [cutD] at h
    · simp only [cutD, if_neg h1] at h ⊢
      obtain ⟨e1, e2⟩ := ih h
      exact ⟨by rw [e1], e2⟩
theorem cutD_some {l : List UInt8} (h : (cutD l).2.2 = true) : l = (cutD l).1 ++ 46 :: (cutD l).2.1 ∧ (46 : UInt8) ∉ (cutD l).1 := by
  induction l with
  | nil => simp [cutD] at h
  | cons c r ih =>
    by_cases h1 : c = 46
    · subst h1; simp [cutD]
    · simp only [cutD, if_neg h1] at h ⊢
      obtain ⟨e1, e2⟩ := ih h
      refine ⟨by rw [List.cons_append, ← e1], ?_⟩
      intro hm
      rcases List.mem_cons.1 hm with h2 | h2
      · exact h1 h2.symm
      · exact e2 h2
theorem index_cut (l : List UInt8) : Lib.indexByte l 46 = if (cutD l).2.2 = true then ((cutD l).1.length : Int) else -1 := by
  induction l with
  | nil => rfl
  | cons c r ih =>
    by_cases h1 : c = 46
    · subst h1; simp [cutD, Lib.indexByte]
    · have hb : (c == 46) = false := by simpa using h1
      simp only [cutD, if_neg h1, Lib.indexByte, hb]
      rw [ih]
      by_cases h2 : (cutD r).2.2 = true
      · rw [if_pos h2, if_pos h2, if_neg (by decide), if_neg (by rw [beq_iff_eq]; omega)]
        simp
      · rw [if_neg h2, if_neg h2]; rfl
/-- What a token's parts are. -/
def partsD (l : List UInt8) : Option (List UInt8 × List UInt8 × List UInt8) :=
  match splitD l with
  | [p, q, r] => some (p, q, r)
  | _ => none
theorem parts_cut (l : List UInt8) : partsD l = if (cutD (cutD l).2.1).2.2 = true ∧ (cutD (cutD (cutD l).2.1).2.1).2.2 = false then some ((cutD l).1, (cutD (cutD l).2.1).1, (cutD (cutD l).2.1).2.1) else none := by
  unfold partsD
  rw [splitD_cut l]
  by_cases h1 : (cutD l).2.2 = true
  · rw [if_pos h1, splitD_cut (cutD l).2.1]
    by_cases h2 : (cutD (cutD l).2.1).2.2 = true
    · rw [if_pos h2, splitD_cut (cutD (cutD l).2.1).2.1]
      by_cases h3 : (cutD (cutD (cutD l).2.1).2.1).2.2 = true
      · rw [if_pos h3, if_neg (by rw [h3]; simp)]
        rw [splitD_cut (cutD (cutD (cutD l).2.1).2.1).2.1]
        split
        · rename_i h; split at h <;> simp at h
        · rfl
      · rw [if_neg h3, if_pos ⟨h2, by simpa using h3⟩]
    · rw [if_neg h2, if_neg (fun h => h2 h.1)]
  · rw [if_neg h1]
    have hn := cutD_none (by simpa using h1 : (cutD l).2.2 = false)
    rw [hn.2, if_neg (by simp [cutD])]
theorem parts_mk {p q r : List UInt8} (hp : (46 : UInt8) ∉ p) (hq : (46 : UInt8) ∉ q) (hr : (46 : UInt8) ∉ r) : partsD (p ++ 46 :: (q ++ 46 :: r)) = some (p, q, r) := by
  have go : ∀ (p t : List UInt8), (46 : UInt8) ∉ p → splitD (p ++ 46 :: t) = p :: splitD t := by
    intro p
    induction p with
    | nil => intro t _; simp [splitD]
    | cons c p ih =>
      intro t h
      have hc : c ≠ 46 := fun e => h (by rw [e]; simp)
      rw [List.cons_append, splitD, if_neg hc, ih t (fun hm => h (by simp [hm]))]
  have last : ∀ r : List UInt8, (46 : UInt8) ∉ r → splitD r = [r] := by
    intro r
    induction r with
    | nil => intro _; rfl
    | cons c r ih =>
      intro h
      have hc : c ≠ 46 := fun e => h (by rw [e]; simp)
      rw [splitD, if_neg hc, ih (fun hm => h (by simp [hm]))]
  unfold partsD
  rw [go p _ hp, go q _ hq, last r hr]
/-- The reference's walk: byte by byte. -/
def grow (L : List (List UInt8)) (c : UInt8) : List (List UInt8) := if c = 46 then L ++ [[]] else L.dropLast ++ [(L.getLast?.getD []) ++ [c]]
theorem split_app (c : UInt8) : ∀ l : List UInt8, splitD (l ++ [c]) = grow (splitD l) c
  | [] => by
    unfold grow
    by_cases h : c = 46
    · simp [splitD, h]
    · simp [splitD, h]
  | a :: r => by
    have ih := split_app c r
    have hne : splitD r ≠ [] := by rw [splitD_cut]; split <;> simp
    rw [List.cons_append, splitD, ih]
    by_cases ha : a = 46
    · rw [if_pos ha, splitD, if_pos ha]
      unfold grow
      by_cases h : c = 46
      · simp [h]
      · rw [if_neg h, if_neg h]
        cases hs : splitD r with
        | nil => exact absurd hs hne
        | cons x t => simp
    · rw [if_neg ha, splitD, if_neg ha]
      cases hs : splitD r with
      | nil => exact absurd hs hne
      | cons x t =>
        unfold grow
        by_cases h : c = 46
        · simp [h]
        · rw [if_neg h, if_neg h]
          cases t with
          | nil => simp
          | cons y t => simp
theorem split_pos (l : List UInt8) : splitD l ≠ [] := by rw [splitD_cut]; split <;> simp

/-! ### Numbers -/
def numFold (n : Nat) : List UInt8 → Option Nat
  | [] => some n
  | c :: r => if c.toNat < 48 ∨ 57 < c.toNat then none else if (9223372036854775807 - (c.toNat - 48)) / 10 < n then none else numFold (10 * n + (c.toNat - 48)) r
def numR (l : List UInt8) : Option Nat := if l.length = 0 ∨ 19 < l.length ∨ (l.head?.map (·.toNat) = some 48 ∧ 1 < l.length) then none else numFold 0 l
theorem dec_one {u : Nat} (h : u < 10) : Lib.decDigits u = [UInt8.ofNat (48 + u)] := by rw [Lib.decDigits, dif_pos h]
theorem dec_more {u : Nat} (h : ¬ u < 10) : Lib.decDigits u = Lib.decDigits (u / 10) ++ [UInt8.ofNat (48 + u % 10)] := by rw [Lib.decDigits, dif_neg h]
theorem dig_nat {d : Nat} (h : d < 10) : (UInt8.ofNat (48 + d)).toNat = 48 + d := by simp; omega
theorem ofNat_back (c : UInt8) (h0 : 48 ≤ c.toNat) (_h1 : c.toNat ≤ 57) : UInt8.ofNat (48 + (c.toNat - 48)) = c := by
  apply UInt8.toNat_inj.1
  have := c.toNat_lt
  simp; omega
theorem fold_dec : ∀ (l : List UInt8) (n u : Nat), n ≠ 0 → numFold n l = some u → Lib.decDigits u = Lib.decDigits n ++ l ∧ (l ≠ [] → u < 9223372036854775808)
  | [], n, u, _, h => by simp only [numFold] at h; cases h; simp
  | c :: r, n, u, hn, h => by
    simp only [numFold] at h
    split at h
    · cases h
    · rename_i h1
      split at h
      · cases h
      · rename_i h2
        have hd : c.toNat - 48 < 10 := by omega
        obtain ⟨e1, e2⟩ := fold_dec r _ u (by omega) h
        refine ⟨?_, fun _ => ?_⟩
        · rw [e1, dec_more (u := 10 * n + (c.toNat - 48)) (by omega), show (10 * n + (c.toNat - 48)) / 10 = n by omega, show (10 * n + (c.toNat - 48)) % 10 = c.toNat - 48 by omega, ofNat_back c (by omega) (by omega)]
          simp
        · cases r with
          | nil => simp only [numFold] at h; cases h; omega
          | cons a b => exact e2 (by simp)
theorem num_dec {l : List UInt8} {u : Nat} (h : numR l = some u) : l = Lib.decDigits u ∧ u < 9223372036854775808 := by
  unfold numR at h
  split at h
  · cases h
  · rename_i h0
    cases l with
    | nil => simp at h0
    | cons c r =>
      simp only [numFold] at h
      split at h
      · cases h
      · rename_i h1
        split at h
        · cases h
        · have hd : c.toNat - 48 < 10 := by omega
          rw [Nat.mul_zero, Nat.zero_add] at h
          by_cases hz : c.toNat = 48
          · have hr : r = [] := by
              cases r with
              | nil => rfl
              | cons a b => exact absurd (Or.inr (Or.inr ⟨by simp [hz], by simp⟩)) h0
            subst hr
            simp only [numFold] at h
            cases h
            rw [dec_one hd, ofNat_back c (by omega) (by omega)]
            exact ⟨rfl, by omega⟩
          · obtain ⟨e1, e2⟩ := fold_dec r _ u (by omega) h
            rw [dec_one hd, ofNat_back c (by omega) (by omega)] at e1
            refine ⟨by rw [e1]; rfl, ?_⟩
            cases r with
            | nil => simp only [numFold] at h; cases h; omega
            | cons a b => exact e2 (by simp)
theorem fold_app : ∀ (l : List UInt8) (n u d : Nat), numFold n l = some u → d < 10 → 10 * u + d < 9223372036854775808 → numFold n (l ++ [UInt8.ofNat (48 + d)]) = some (10 * u + d)
  | [], n, u, d, h, hd, hu => by
    simp only [numFold] at h
    cases h
    have e := dig_nat hd
    simp only [List.nil_append, numFold, e]
    rw [if_neg (by omega), if_neg (by omega)]
    congr 1
    omega
  | c :: r, n, u, d, h, hd, hu => by
    simp only [List.cons_append, numFold] at h ⊢
    split at h
    · cases h
    · rename_i h1
      rw [if_neg h1]
      split at h
      · cases h
      · rename_i h2
        rw [if_neg h2]
        exact fold_app r _ u d h hd hu
theorem fold_of (u : Nat) (hu : u < 9223372036854775808) : numFold 0 (Lib.decDigits u) = some u := by
  induction u using Nat.strongRecOn with
  | _ u ih =>
    by_cases h : u < 10
    · rw [dec_one h]
      have := fold_app [] 0 0 u rfl h (by omega)
      simpa using this
    · rw [dec_more h]
      have := fold_app _ 0 (u / 10) (u % 10) (ih (u / 10) (by omega) (by omega)) (by omega) (by omega)
      rw [this]
      congr 1
      omega
theorem dec_lead (u : Nat) : ∃ c r, Lib.decDigits u = c :: r ∧ 48 ≤ c.toNat ∧ c.toNat ≤ 57 ∧ (u ≠ 0 → c.toNat ≠ 48) ∧ (r ≠ [] → u ≠ 0) := by
  induction u using Nat.strongRecOn with
  | _ u ih =>
    by_cases h : u < 10
    · rw [dec_one h]
      have e := dig_nat h
      exact ⟨_, _, rfl, by omega, by omega, fun h0 => by omega, fun h => absurd rfl h⟩
    · rw [dec_more h]
      obtain ⟨c, r, e, h1, h2, h3, h4⟩ := ih (u / 10) (by omega)
      rw [e]
      exact ⟨c, _, rfl, h1, h2, fun _ => h3 (by omega), fun _ => by omega⟩
theorem dec_len {u : Nat} (h : u < 9223372036854775808) : (Lib.decDigits u).length ≤ 19 := by
  have gen : ∀ (k u : Nat), u < 10 ^ (k + 1) → (Lib.decDigits u).length ≤ k + 1 := by
    intro k
    induction k with
    | zero => intro u h; rw [dec_one (by omega)]; simp
    | succ k ih =>
      intro u h
      by_cases h1 : u < 10
      · rw [dec_one h1]; simp
      · rw [dec_more h1, List.length_append]
        have := ih (u / 10) (by rw [Nat.pow_succ] at h; omega)
        simp; omega
  exact gen 18 u (by omega)
theorem num_of {u : Nat} (h : u < 9223372036854775808) : numR (Lib.decDigits u) = some u := by
  unfold numR
  obtain ⟨c, r, e, h1, h2, h3, h4⟩ := dec_lead u
  have hl := dec_len h
  rw [if_neg]
  · exact fold_of u h
  · rw [e] at hl ⊢
    rintro (h5 | h5 | ⟨h5, h6⟩)
    · simp at h5
    · omega
    · have hr : r ≠ [] := by rintro rfl; simp at h6
      have := h3 (h4 hr)
      simp at h5
      omega
/-- Decimal numerals are read back by the library. -/
theorem parse_app10 : ∀ (l : List UInt8) (acc u d : Nat), Lib.parseUint10 acc l = .ok u → d < 10 → u * 10 + d < 18446744073709551616 → Lib.parseUint10 acc (l ++ [UInt8.ofNat (48 + d)]) = .ok (u * 10 + d)
  | [], acc, u, d, h, hd, hu => by
    simp only [Lib.parseUint10] at h
    cases h
    have e := dig_nat hd
    simp only [List.nil_append, Lib.parseUint10, e]
    rw [if_pos (by omega), if_neg (by omega), if_neg (by omega)]
    congr 1
    omega
  | c :: r, acc, u, d, h, hd, hu => by
    simp only [List.cons_append, Lib.parseUint10] at h ⊢
    split at h
    · rename_i h1
      rw [if_pos h1]
      split at h
      · cases h
      · rename_i h2
        rw [if_neg h2]
        split at h
        · cases h
        · rename_i h3
          rw [if_neg h3]
          exact parse_app10 r _ u d h hd hu
    · cases h
theorem parse_dec10 (u : Nat) (hu : u < 18446744073709551616) : Lib.parseUint10 0 (Lib.decDigits u) = .ok u := by
  induction u using Nat.strongRecOn with
  | _ u ih =>
    by_cases h : u < 10
    · rw [dec_one h]
      have := parse_app10 [] 0 0 u rfl h (by omega)
      simpa using this
    · rw [dec_more h]
      have := parse_app10 _ 0 (u / 10) (u % 10) (ih (u / 10) (by omega) (by omega)) (by omega) (by omega)
      rw [this]
      congr 1
      omega
theorem atoi_dec {u : Nat} (h : u < 9223372036854775808) : Lib.atoiAll (Lib.decDigits u) = .ok (u : Int) := by
  obtain ⟨c, r, e, h1, h2, _, _⟩ := dec_lead u
  have hp := parse_dec10 u (by omega)
  rw [e] at hp ⊢
  rw [Lib.atoiAll_plain c r (by omega) (by omega)]
  unfold Lib.parseMag
  rw [if_neg (by simp), hp]
  simp only [Lib.signless]
  rw [if_neg (by omega)]
/-- The layer's way to a number comes to the same. -/
theorem num_way {l : List UInt8} {n : Int} (h : Lib.atoiAll l = .ok n) (h0 : 0 ≤ n) (h1 : n ≤ 9223372036854775807) : (Lib.itoa n = l ∧ numR l = some n.toNat) ∨ (Lib.itoa n ≠ l ∧ numR l = none) := by
  obtain ⟨u, rfl⟩ : ∃ u : Nat, n = (u : Int) := ⟨n.toNat, by omega⟩
  rw [Lib.itoa_nonneg]
  by_cases hl : Lib.decDigits u = l
  · refine Or.inl ⟨hl, ?_⟩
    rw [← hl, num_of (by omega)]; simp
  · refine Or.inr ⟨hl, ?_⟩
    cases hn : numR l with
    | none => rfl
    | some v =>
      obtain ⟨e1, e2⟩ := num_dec hn
      rw [e1, atoi_dec e2] at h
      have hv : (v : Int) = (u : Int) := by injection h
      have : v = u := by omega
      subst this
      exact absurd e1.symm hl
theorem num_none {l : List UInt8} (h : (∀ n, Lib.atoiAll l ≠ .ok n) ∨ ∃ n : Int, Lib.atoiAll l = .ok n ∧ n < 0) : numR l = none := by
  cases hn : numR l with
  | none => rfl
  | some v =>
    obtain ⟨e1, e2⟩ := num_dec hn
    have ha := atoi_dec e2
    rw [← e1] at ha
    rcases h with h | ⟨n, h, h2⟩
    · exact absurd ha (h _)
    · rw [ha] at h
      have hv : (v : Int) = n := by injection h
      omega
theorem dec_nodot (u : Nat) : (46 : UInt8) ∉ Lib.decDigits u := by
  induction u using Nat.strongRecOn with
  | _ u ih =>
    by_cases h : u < 10
    · rw [dec_one h]
      intro hm
      have h2 := List.mem_singleton.1 hm
      have := congrArg UInt8.toNat h2
      rw [dig_nat h] at this
      simp at this; omega
    · rw [dec_more h]
      intro hm
      rcases List.mem_append.1 hm with h1 | h1
      · exact ih (u / 10) (by omega) h1
      · have h2 := List.mem_singleton.1 h1
        have := congrArg UInt8.toNat h2
        rw [dig_nat (by omega)] at this
        simp at this; omega
end Go.Proofs.YtbpclifgafafdaaDoor
