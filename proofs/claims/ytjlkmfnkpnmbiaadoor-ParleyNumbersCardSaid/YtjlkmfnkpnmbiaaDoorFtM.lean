/- Plain maths of sums of floats: all NaNs count as one. -/
import Derived.Test.YtjlkmfnkpnmbiaaDoorFsS
import Derived.Laws.FloatArith
namespace Go.Proofs.YtjlkmfnkpnmbiaaDoor

def addN (a b : Nat) : Option Nat := FloatKind.f64.format.add a b
theorem nan_read (b : Nat) (h : nanB b = true) : ∃ s f, Ieee.double.read b = .nan s f := by
  have e1 : Ieee.double.binade = 4503599627370496 := by decide
  have e2 : Ieee.double.infRung = 9218868437227405312 := by decide
  have e3 : Ieee.double.signWeight = 9223372036854775808 := by decide
  unfold nanB at h
  have h4 := of_decide_eq_true h
  unfold Ieee.Format.read
  simp only [e1, e2, e3]
  have h1 : ¬ b % 9223372036854775808 < 4503599627370496 := by omega
  have h2 : ¬ b % 9223372036854775808 < 9218868437227405312 := by omega
  have h3 : ¬ b % 9223372036854775808 = 9218868437227405312 := by omega
  simp [h1, h2, h3]
theorem add_nan_l {a b : Nat} (h : nanB a = true) : addN a b = none := by
  obtain ⟨s, f, e⟩ := nan_read a h
  have hr : FloatKind.f64.format = Ieee.double := rfl
  unfold addN Ieee.Format.add
  rw [hr, e]
  cases Ieee.double.read b <;> rfl
theorem add_nan_r {a b : Nat} (h : nanB b = true) : addN a b = none := by
  obtain ⟨s, f, e⟩ := nan_read b h
  have hr : FloatKind.f64.format = Ieee.double := rfl
  unfold addN Ieee.Format.add
  rw [hr, e]
  cases Ieee.double.read a <;> rfl
theorem add_lt {a b r : Nat} (h : addN a b = some r) : r < 18446744073709551616 := FloatKind.f64.format.add_lt h
def cNaN : Nat := 9221120237041090561
theorem bits_cNaN : bitsN cNaN = cNaN := by decide +kernel
theorem nan_cNaN : nanB cNaN = true := by decide +kernel
def stepF (s x : Nat) : Nat := match addN s x with
  | some r => r
  | none => cNaN
def sumF (l : List Nat) : Nat := l.foldl stepF 0
theorem same_cases {a b : Nat} (h : bitsN a = bitsN b) : (nanB a = true ∧ nanB b = true) ∨ (nanB a = false ∧ a = b) := by
  cases ha : nanB a with
  | true =>
    left
    refine ⟨rfl, ?_⟩
    cases hb : nanB b with
    | true => rfl
    | false =>
      rw [bits_nan a ha, bits_num b hb] at h
      rw [← h] at hb
      exact absurd nan_cNaN (by rw [show cNaN = 9221120237041090561 from rfl, hb]; decide)
  | false =>
    right
    refine ⟨rfl, ?_⟩
    cases hb : nanB b with
    | true =>
      rw [bits_nan b hb, bits_num a ha] at h
      rw [h] at ha
      exact absurd nan_cNaN (by rw [show cNaN = 9221120237041090561 from rfl, ha]; decide)
    | false => rw [bits_num a ha, bits_num b hb] at h; exact h
theorem step_same {a a' b b' : Nat} (ha : bitsN a = bitsN a') (hb : bitsN b = bitsN b') : bitsN (stepF a b) = bitsN (stepF a' b') := by
  unfold stepF
  rcases same_cases ha with ⟨h1, h2⟩ | ⟨_, rfl⟩
  · rw [add_nan_l h1, add_nan_l h2]
  · rcases same_cases hb with ⟨h1, h2⟩ | ⟨_, rfl⟩
    · rw [add_nan_r h1, add_nan_r h2]
    · rfl
theorem sum_same : ∀ (a b : List Nat) (s s' : Nat), a.map bitsN = b.map bitsN → bitsN s = bitsN s' → bitsN (a.foldl stepF s) = bitsN (b.foldl stepF s')
  | [], [], s, s', _, h => h
  | [], y :: b, s, s', h, _ => by simp at h
  | x :: a, [], s, s', h, _ => by simp at h
  | x :: a, y :: b, s, s', h, hs => by
    simp only [List.map_cons, List.cons.injEq] at h
    exact sum_same a b _ _ h.2 (step_same hs h.1)
theorem ranks_bits : ∀ (a b : List Nat), (∀ x ∈ a, x < 18446744073709551616) → (∀ x ∈ b, x < 18446744073709551616) → a.map rankN = b.map rankN → a.map bitsN = b.map bitsN
  | [], [], _, _, _ => rfl
  | [], y :: b, _, _, h => by simp at h
  | x :: a, [], _, _, h => by simp at h
  | x :: a, y :: b, ha, hb, h => by
    simp only [List.map_cons, List.cons.injEq] at h ⊢
    exact ⟨rank_inj x y (ha x (by simp)) (hb y (by simp)) h.1, ranks_bits a b (fun z hz => ha z (by simp [hz])) (fun z hz => hb z (by simp [hz])) h.2⟩
theorem sumF_snoc (l : List Nat) (x : Nat) : sumF (l ++ [x]) = stepF (sumF l) x := by unfold sumF; rw [List.foldl_append]; rfl
/-- Two orderings of one list have like sums. -/
theorem sums_like {a b t : List Nat} (ha : SortedN a) (hb : SortedN b) (pa : a.Perm t) (pb : b.Perm t) (ht : ∀ x ∈ t, x < 18446744073709551616) : bitsN (sumF a) = bitsN (sumF b) :=
  sum_same _ _ _ _ (ranks_bits a b (fun x hx => ht x (pa.mem_iff.1 hx)) (fun x hx => ht x (pb.mem_iff.1 hx)) (ranks_one ha hb (pa.trans pb.symm))) rfl
/-- What a NaN's bits are drawn as: a NaN. -/
theorem cut_nan (x y t : Nat) : nanB ((Question.nanBits .f64 x y).cut t) = true ∧ (Question.nanBits .f64 x y).cut t < 18446744073709551616 := by
  show nanB ((t % 2) * 2 ^ 63 + 0x7ff0000000000000 + 1 + (t / 2) % (2 ^ 52 - 1)) = true ∧ (t % 2) * 2 ^ 63 + 0x7ff0000000000000 + 1 + (t / 2) % (2 ^ 52 - 1) < 18446744073709551616
  rw [show (2 : Nat) ^ 63 = 9223372036854775808 by decide, show (2 : Nat) ^ 52 - 1 = 4503599627370495 by decide]
  obtain ⟨r, hr⟩ : ∃ r, r = t / 2 % 4503599627370495 := ⟨_, rfl⟩
  have hr2 : r < 4503599627370495 := by rw [hr]; exact Nat.mod_lt _ (by decide)
  rw [← hr]
  unfold nanB
  rcases Nat.mod_two_eq_zero_or_one t with h | h
  · rw [h]
    exact ⟨decide_eq_true (by omega), by omega⟩
  · rw [h]
    exact ⟨decide_eq_true (by omega), by omega⟩
theorem run_add_some {P : Program} (w : World) (ty : TypeId) (x y r : Nat) (h : addN x y = some r) : (binOp .add ty (.float .f64 x) (.float .f64 y)).run P w = .ok (.float .f64 r) w := run_float_arith w .add ty .f64 x y r h
theorem run_add_none {P : Program} (w : World) (ty : TypeId) (x y : Nat) (h : addN x y = none) : (binOp .add ty (.float .f64 x) (.float .f64 y)).run P w = .ok (.float .f64 ((Question.nanBits .f64 x y).cut (w.tape w.drawn (Question.nanBits .f64 x y)))) w.drew := by
  unfold addN at h
  simp [binOp, Op.floatArith, h]
  intro hf
  exact absurd hf (by simp [Question.forced])
end Go.Proofs.YtjlkmfnkpnmbiaaDoor
