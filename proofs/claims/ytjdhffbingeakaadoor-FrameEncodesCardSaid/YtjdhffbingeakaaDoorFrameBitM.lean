/- With any one byte of a framed block changed it is none any more: the cyclic sum of two texts that part in one byte alone is not the same. No condition. -/
import Derived.Test.YtjdhffbingeakaaDoorFrameM
namespace Go.Proofs.YtjdhffbingeakaaDoor

theorem sbit_inj {a b : Nat} (ha : a < 4294967296) (hb : b < 4294967296) (h : sbit a = sbit b) : a = b := by
  have top : ∀ c, c < 4294967296 → (sbit c).testBit 31 = decide (c % 2 = 1) := by
    intro c hc
    have h0 : (c / 2).testBit 31 = false := Nat.testBit_lt_two_pow (by omega)
    unfold sbit
    by_cases ho : c % 2 = 1
    · rw [if_pos ho, Nat.testBit_xor, h0]; simp [ho]; decide
    · rw [if_neg ho, h0]; simp [ho]
  have hodd : (a % 2 = 1) ↔ (b % 2 = 1) := by
    have h1 := top a ha
    have h2 := top b hb
    rw [h, h2] at h1
    by_cases x : a % 2 = 1 <;> by_cases y : b % 2 = 1 <;> simp_all
  unfold sbit at h
  by_cases x : a % 2 = 1
  · rw [if_pos x, if_pos (hodd.1 x)] at h
    have h3 := congrArg (· ^^^ 3988292384) h
    simp only [Nat.xor_assoc, Nat.xor_self, Nat.xor_zero] at h3
    have := hodd.1 x
    omega
  · have y : ¬ b % 2 = 1 := fun y => x (hodd.2 y)
    rw [if_neg x, if_neg y] at h
    omega
theorem sbit_lt (c : Nat) (hc : c < 4294967296) : sbit c < 4294967296 := by
  unfold sbit
  split
  · exact Nat.xor_lt_two_pow (n := 32) (by omega) (by omega)
  · omega
theorem cstep_inj {a b : Nat} (ha : a < 4294967296) (hb : b < 4294967296) (h : cstep a = cstep b) : a = b := by
  rw [← sbit4, ← sbit4] at h
  have l1 := fun c hc => sbit_lt c hc
  exact sbit_inj ha hb (sbit_inj (l1 _ ha) (l1 _ hb) (sbit_inj (l1 _ (l1 _ ha)) (l1 _ (l1 _ hb)) (sbit_inj (l1 _ (l1 _ (l1 _ ha))) (l1 _ (l1 _ (l1 _ hb))) h)))
theorem xor_lt32 {a x : Nat} (ha : a < 4294967296) (hx : x < 256) : a ^^^ x < 4294967296 := Nat.xor_lt_two_pow (n := 32) ha (by omega)
theorem crcByte_inj_state {a b x : Nat} (ha : a < 4294967296) (hb : b < 4294967296) (hx : x < 256) (h : crcByte a x = crcByte b x) : a = b := by
  have h1 := cstep_inj (xor_lt32 ha hx) (xor_lt32 hb hx) (cstep_inj (cstep_lt _ (xor_lt32 ha hx)) (cstep_lt _ (xor_lt32 hb hx)) h)
  have := congrArg (· ^^^ x) h1
  simpa only [Nat.xor_assoc, Nat.xor_self, Nat.xor_zero] using this
theorem crcByte_inj_byte {a x y : Nat} (ha : a < 4294967296) (hx : x < 256) (hy : y < 256) (h : crcByte a x = crcByte a y) : x = y := by
  have h1 := cstep_inj (xor_lt32 ha hx) (xor_lt32 ha hy) (cstep_inj (cstep_lt _ (xor_lt32 ha hx)) (cstep_lt _ (xor_lt32 ha hy)) h)
  have := congrArg (a ^^^ ·) h1
  simpa only [← Nat.xor_assoc, Nat.xor_self, Nat.zero_xor] using this
theorem fold_inj (l : List Nat) (hl : ∀ x ∈ l, x < 256) : ∀ {a b : Nat}, a < 4294967296 → b < 4294967296 → l.foldl crcByte a = l.foldl crcByte b → a = b := by
  induction l with
  | nil => intro a b _ _ h; exact h
  | cons x l ih =>
    intro a b ha hb h
    have hx := hl x (by simp)
    have := ih (fun y hy => hl y (by simp [hy])) (crcByte_lt a x ha hx) (crcByte_lt b x hb hx) h
    exact crcByte_inj_state ha hb hx this
theorem crc_one {p q : List Nat} {x y : Nat} (hp : ∀ z ∈ p, z < 256) (hq : ∀ z ∈ q, z < 256) (hx : x < 256) (hy : y < 256) (h : crcGo (p ++ x :: q) = crcGo (p ++ y :: q)) : x = y := by
  unfold crcGo at h
  rw [List.foldl_append, List.foldl_append, List.foldl_cons, List.foldl_cons] at h
  have h0 := fold_lt p hp 4294967295 (by decide)
  exact crcByte_inj_byte h0 hx hy (fold_inj q hq (crcByte_lt _ _ h0 hx) (crcByte_lt _ _ h0 hy) h)
theorem crc_set {l : List Nat} (hl : ∀ z ∈ l, z < 256) {i y : Nat} (hi : i < l.length) (hy : y < 256) (h : crcGo (l.set i y) = crcGo l) : y = l[i] := by
  have e1 : l.set i y = l.take i ++ y :: l.drop (i + 1) := List.set_eq_take_append_cons_drop .. ▸ by rw [if_pos hi]
  have e2 : l = l.take i ++ l[i] :: l.drop (i + 1) := by rw [List.getElem_cons_drop, List.take_append_drop]
  rw [e1] at h
  conv at h => rhs; rw [e2]
  exact crc_one (fun z hz => hl z (List.mem_of_mem_take hz)) (fun z hz => hl z (List.mem_of_mem_drop hz)) hy (hl _ (List.getElem_mem hi)) h

def zeroed (l : List Nat) : List Nat := l.take 16 ++ [0, 0, 0, 0] ++ l.drop 20
def Summed (l : List Nat) : Prop := (l.drop 16).take 4 = leN (sumN (zeroed l)) 4
theorem encN_summed (kind seq : Nat) (pl : List Nat) (place : Nat) : Summed (encN kind seq pl place) := by
  have e : zeroed (encN kind seq pl place) = frontN kind pl.length place seq ++ [0, 0, 0, 0] ++ backN pl := by
    unfold zeroed encN
    rw [List.append_assoc (frontN _ _ _ _) (leN _ 4), take_app (frontN_length _ _ _ _) rfl, show (20 : Nat) = 16 + 4 from rfl, ← List.drop_drop, drop_app (frontN_length _ _ _ _) rfl, drop_app (leN_length _ _) rfl]
  unfold Summed
  rw [e]
  unfold encN
  rw [List.append_assoc (frontN _ _ _ _) (leN _ 4), drop_app (frontN_length _ _ _ _) rfl]
  exact take_app (leN_length _ _) rfl
theorem zeroed_lt {l : List Nat} (hl : ∀ z ∈ l, z < 256) : ∀ z ∈ zeroed l, z < 256 := by
  intro z hz
  simp only [zeroed, List.mem_append, List.mem_cons, List.not_mem_nil, or_false] at hz
  rcases hz with (h | h) | h
  · exact hl z (List.mem_of_mem_take h)
  · rcases h with rfl | rfl | rfl | rfl <;> omega
  · exact hl z (List.mem_of_mem_drop h)
theorem sum_inj {a b : List Nat} (ha : ∀ z ∈ a, z < 256) (hb : ∀ z ∈ b, z < 256) (h : leN (sumN a) 4 = leN (sumN b) 4) : crcGo a = crcGo b := by
  have h1 := fold_lt a ha 4294967295 (by decide)
  have h2 := fold_lt b hb 4294967295 (by decide)
  have := leN_inj (n := 4) (x := sumN a) (y := sumN b) (by unfold sumN; omega) (by unfold sumN; omega) h
  unfold sumN at this
  unfold crcGo at this ⊢
  omega
theorem summed_one {l : List Nat} (hlen : l.length = 256) (hl : ∀ z ∈ l, z < 256) {i y : Nat} (hi : i < 256) (hy : y < 256) (h : Summed l) (h' : Summed (l.set i y)) : y = l[i]'(by omega) := by
  have hl' : ∀ z ∈ l.set i y, z < 256 := fun z hz => by
    rcases List.mem_or_eq_of_mem_set hz with h | rfl
    · exact hl z h
    · exact hy
  have hz := zeroed_lt hl
  have hz' := zeroed_lt hl'
  unfold Summed at h h'
  by_cases h1 : i < 16
  · have e1 : (l.set i y).drop 16 = l.drop 16 := by rw [List.drop_set, if_pos h1]
    have e2 : zeroed (l.set i y) = (zeroed l).set i y := by
      unfold zeroed
      rw [show (l.set i y).drop 20 = l.drop 20 by rw [List.drop_set, if_pos (by omega)], List.take_set, List.set_append, if_pos (by simp; omega), List.set_append, if_pos (by simp; omega)]
    rw [e1, h] at h'
    have h3 := sum_inj hz hz' h'
    rw [e2] at h3
    have := crc_set hz (by simp [zeroed]; omega) hy h3.symm
    rw [this]
    simp [zeroed, List.getElem_append, h1, show i < l.length by omega, show i < 16 + 4 by omega, hlen]
  · by_cases h2 : i < 20
    · have e2 : zeroed (l.set i y) = zeroed l := by
        unfold zeroed
        rw [List.take_set_of_le (by omega), List.drop_set, if_pos h2]
      rw [e2, ← h] at h'
      have := congrArg (fun t : List Nat => t[i - 16]?) h'
      simp only [List.getElem?_take, List.getElem?_drop] at this
      rw [if_pos (by omega), if_pos (by omega), show 16 + (i - 16) = i by omega, List.getElem?_set_self (by omega), List.getElem?_eq_getElem (by omega)] at this
      exact Option.some.inj this
    · have e1 : ((l.set i y).drop 16).take 4 = (l.drop 16).take 4 := by
        rw [List.drop_set, if_neg (by omega), List.take_set_of_le (by omega)]
      have e2 : zeroed (l.set i y) = (zeroed l).set i y := by
        unfold zeroed
        rw [List.take_set_of_le (by omega), List.drop_set, if_neg (by omega), List.set_append, if_neg (by simp; omega)]
        congr 2
        simp; omega
      rw [e1, h] at h'
      have h3 := sum_inj hz hz' h'
      rw [e2] at h3
      have := crc_set hz (by simp [zeroed]; omega) hy h3.symm
      rw [this]
      simp only [zeroed]
      rw [List.getElem_append_right (by simp; omega), List.getElem_drop]
      congr 1
      simp; omega
/-- With one byte changed a framed block is none, at whatever place. -/
theorem turned_none (kind seq : Nat) (pl : List Nat) (place : Nat) (hk : kind < 256) (hp : pl.length ≤ 232) (hpl : ∀ x ∈ pl, x < 256) {i y : Nat} (hi : i < 256) (hy : y < 256)
    (hne : y ≠ (encN kind seq pl place).getD i 0) (other : Int) : ¬ fitsN ((encN kind seq pl place).set i y) other := by
  rintro ⟨a, rfl, _, _, h⟩
  have hlen := encN_length kind seq pl place hp
  have h2 := encN_summed (sayN ((encN kind seq pl place).set i y)).1 (sayN ((encN kind seq pl place).set i y)).2.1 (sayN ((encN kind seq pl place).set i y)).2.2 a
  rw [h] at h2
  have := summed_one hlen (encN_lt _ _ _ _ hk hpl) hi hy (encN_summed _ _ _ _) h2
  exact hne (by rw [this, List.getD_eq_getElem?_getD, List.getElem?_eq_getElem (by omega)]; rfl)
end Go.Proofs.YtjdhffbingeakaaDoor
