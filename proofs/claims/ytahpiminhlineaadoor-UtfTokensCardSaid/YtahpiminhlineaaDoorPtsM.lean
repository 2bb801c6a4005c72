/- Plain maths of a text's code points: their numbers, small forms twice, words. -/
import Derived.Test.YtahpiminhlineaaDoorMentJ
import Derived.Test.YtahpiminhlineaaDoorTok
import Derived.Lib.MapLaws
namespace Go.Proofs.YtahpiminhlineaaDoor
open Go.Lib Go.PlainAid

def baseN (n : Nat) : Int := if n = 2 then 192 else if n = 3 then 224 else if n = 4 then 240 else 0
/-- A valid code point's number, byte by byte. -/
theorem rune_code (s : ByteArray) (h : 0 < s.size) (hn : runeN s.data.toList ≠ 0) :
    1 ≤ runeN s.data.toList ∧ runeN s.data.toList ≤ 4 ∧ runeN s.data.toList ≤ s.size ∧ (decodeL s.data.toList).2 = runeN s.data.toList ∧
    ((decodeL s.data.toList).1 : Int) = accZ s (bt s 0 - baseN (runeN s.data.toList)) (runeN s.data.toList - 1) ∧
    (∀ j, j + 1 < runeN s.data.toList → contB (bt s (j + 1)) = true) ∧
    (0 ≤ bt s 0 - baseN (runeN s.data.toList)) ∧ (runeN s.data.toList ≠ 1 → bt s 0 - baseN (runeN s.data.toList) ≤ 31) ∧
    (((decodeL s.data.toList).1 < 55296 ∨ 57344 ≤ (decodeL s.data.toList).1) ∧ (decodeL s.data.toList).1 ≤ 1114111) := by
  have hle := runeN_le s.data.toList
  have hlen : s.data.toList.length = s.size := rfl
  have hne : s.data.toList ≠ [] := by
    intro e
    have := congrArg List.length e
    rw [hlen, List.length_nil] at this
    omega
  have hR : runeN s.data.toList = (decodeL s.data.toList).2 ∧ ¬ ((decodeL s.data.toList).1 = 65533 ∧ (decodeL s.data.toList).2 = 1) := by
    unfold runeN at hn ⊢
    rw [if_neg hne] at hn ⊢
    split at hn
    · exact absurd rfl hn
    · rename_i he
      rw [if_neg he]
      exact ⟨rfl, he⟩
  obtain ⟨e1, e2⟩ := hR
  obtain ⟨r, w, hrw⟩ : ∃ r w, decodeL s.data.toList = (r, w) := ⟨_, _, rfl⟩
  rw [hrw] at e1 e2
  rw [e1] at hle ⊢
  rw [hrw]
  simp only at e2 hle ⊢
  have hN := hrw
  rw [decodeL_N] at hN
  have b0 := bt_getD s 0
  have b1 := bt_getD s 1
  have b2 := bt_getD s 2
  have b3 := bt_getD s 3
  have k0 := (s.data.toList.getD 0 0).toNat_lt
  have k1 := (s.data.toList.getD 1 0).toNat_lt
  have k2 := (s.data.toList.getD 2 0).toNat_lt
  have k3 := (s.data.toList.getD 3 0).toNat_lt
  generalize (s.data.toList.getD 0 0).toNat = x0 at *
  generalize (s.data.toList.getD 1 0).toNat = x1 at *
  generalize (s.data.toList.getD 2 0).toNat = x2 at *
  generalize (s.data.toList.getD 3 0).toNat = x3 at *
  have hc : ∀ n : Nat, (∀ j, j + 1 < n → j = 0 ∨ j = 1 ∨ j = 2) → (1 < n → 128 ≤ x1 ∧ x1 ≤ 191) → (2 < n → 128 ≤ x2 ∧ x2 ≤ 191) → (3 < n → 128 ≤ x3 ∧ x3 ≤ 191) → ∀ j, j + 1 < n → contB (bt s (j + 1)) = true := fun n hj q1 q2 q3 j hjn => by
    unfold contB
    rcases hj j hjn with rfl | rfl | rfl
    · rw [show (0 + 1 : Nat) = 1 from rfl, b1]; exact decide_eq_true (by have := q1 (by omega); omega)
    · rw [show (1 + 1 : Nat) = 2 from rfl, b2]; exact decide_eq_true (by have := q2 (by omega); omega)
    · rw [show (2 + 1 : Nat) = 3 from rfl, b3]; exact decide_eq_true (by have := q3 (by omega); omega)
  unfold decodeN at hN
  split at hN
  · obtain ⟨rfl, rfl⟩ := Prod.mk.inj hN
    refine ⟨by omega, by omega, by omega, trivial, ?_, fun j hj => by omega, ?_, fun hh => absurd rfl hh, by omega⟩
    · show (x0 : Int) = bt s 0 - 0
      omega
    · show 0 ≤ bt s 0 - 0
      omega
  · split at hN
    · split at hN
      · obtain ⟨rfl, rfl⟩ := Prod.mk.inj hN
        refine ⟨by omega, by omega, by omega, trivial, ?_, hc 2 (fun j hj => by omega) (fun _ => by omega) (fun _ => by omega) (fun _ => by omega), ?_, fun _ => ?_, by omega⟩
        · show ((x0 % 32 * 64 + x1 % 64 : Nat) : Int) = 64 * (bt s 0 - 192) + bt s 1 - 128
          omega
        · show 0 ≤ bt s 0 - 192
          omega
        · show bt s 0 - 192 ≤ 31
          omega
      · obtain ⟨rfl, rfl⟩ := Prod.mk.inj hN
        exact absurd ⟨rfl, rfl⟩ e2
    · split at hN
      · split at hN
        · obtain ⟨rfl, rfl⟩ := Prod.mk.inj hN
          refine ⟨by omega, by omega, by omega, trivial, ?_, hc 3 (fun j hj => by omega) (fun _ => by omega) (fun _ => by omega) (fun _ => by omega), ?_, fun _ => ?_, by omega⟩
          · show ((x0 % 16 * 4096 + x1 % 64 * 64 + x2 % 64 : Nat) : Int) = 64 * (64 * (bt s 0 - 224) + bt s 1 - 128) + bt s 2 - 128
            omega
          · show 0 ≤ bt s 0 - 224
            omega
          · show bt s 0 - 224 ≤ 31
            omega
        · obtain ⟨rfl, rfl⟩ := Prod.mk.inj hN
          exact absurd ⟨rfl, rfl⟩ e2
      · split at hN
        · split at hN
          · obtain ⟨rfl, rfl⟩ := Prod.mk.inj hN
            refine ⟨by omega, by omega, by omega, trivial, ?_, hc 4 (fun j hj => by omega) (fun _ => by omega) (fun _ => by omega) (fun _ => by omega), ?_, fun _ => ?_, by omega⟩
            · show ((x0 % 8 * 262144 + x1 % 64 * 4096 + x2 % 64 * 64 + x3 % 64 : Nat) : Int) = 64 * (64 * (64 * (bt s 0 - 240) + bt s 1 - 128) + bt s 2 - 128) + bt s 3 - 128
              omega
            · show 0 ≤ bt s 0 - 240
              omega
            · show bt s 0 - 240 ≤ 31
              omega
          · obtain ⟨rfl, rfl⟩ := Prod.mk.inj hN
            exact absurd ⟨rfl, rfl⟩ e2
        · obtain ⟨rfl, rfl⟩ := Prod.mk.inj hN
          exact absurd ⟨rfl, rfl⟩ e2
/-! ### what is encoded is decoded -/
def okR (r : Int) : Prop := 0 ≤ r ∧ (r < 55296 ∨ 57344 ≤ r) ∧ r ≤ 1114111
theorem lowerZ_ok {r : Int} (h : okR r) : okR (lowerZ r) := by
  unfold okR at h ⊢
  unfold lowerZ
  split
  · omega
  · split
    · omega
    · split <;> omega
theorem lowerZ_twice (r : Int) : lowerZ (lowerZ r) = lowerZ r := by
  have h : lowerZ r = lowerZ r := rfl
  conv at h => rhs; unfold lowerZ
  split at h
  · rw [h]; unfold lowerZ; rw [if_neg (by omega), if_neg (by omega), if_neg (by omega)]
  · split at h
    · rw [h]; unfold lowerZ; rw [if_neg (by omega), if_neg (by omega), if_neg (by omega)]
    · split at h
      · rw [h]; decide
      · rw [h]; exact h
theorem toByte_nat (z : Int) (h : 0 ≤ z ∧ z < 256) : (z.toNat.toUInt8).toNat = z.toNat := by
  rw [Nat.toUInt8, UInt8.toNat_ofNat']
  omega
theorem decode_encode (r : Int) (h : okR r) (m : List UInt8) : decodeL (encodeRune r ++ m) = (r.toNat, (encodeRune r).length) ∧ ((encodeRune r).length = 1 → r < 128) := by
  obtain ⟨h0, h1, h2⟩ := h
  rw [decodeL_N]
  by_cases c1 : r ≤ 127
  · have e := encodeRuneZ_one h0 c1
    unfold encodeRune
    rw [e]
    refine ⟨?_, fun _ => by omega⟩
    simp only [List.map_cons, List.map_nil, List.cons_append, List.nil_append, List.length_cons, List.length_nil, List.getD_cons_zero]
    rw [toByte_nat _ (by omega), decodeN_ascii _ _ _ _ _ (by omega)]
  · by_cases c2 : r ≤ 2047
    · have e := encodeRuneZ_two (r := r) (by omega) c2
      unfold encodeRune
      rw [e]
      refine ⟨?_, fun hh => by simp at hh⟩
      simp only [List.map_cons, List.map_nil, List.cons_append, List.nil_append, List.length_cons, List.length_nil, List.getD_cons_zero, List.getD_cons_succ]
      rw [toByte_nat _ (by omega), toByte_nat _ (by omega)]
      unfold decodeN
      rw [if_neg (by omega), if_pos (by omega), if_pos (by omega)]
      apply Prod.ext
      · show _ = r.toNat; omega
      · rfl
    · by_cases c3 : r ≤ 65535
      · have e := encodeRuneZ_three (r := r) (by omega)
        unfold encodeRune
        rw [e]
        refine ⟨?_, fun hh => by simp at hh⟩
        simp only [List.map_cons, List.map_nil, List.cons_append, List.nil_append, List.length_cons, List.length_nil, List.getD_cons_zero, List.getD_cons_succ]
        rw [toByte_nat _ (by omega), toByte_nat _ (by omega), toByte_nat _ (by omega)]
        unfold decodeN
        rw [if_neg (by omega), if_neg (by omega), if_pos (by omega), if_pos (by omega)]
        apply Prod.ext
        · show _ = r.toNat; omega
        · rfl
      · have e := encodeRuneZ_four (r := r) (by omega) (by omega)
        unfold encodeRune
        rw [e]
        refine ⟨?_, fun hh => by simp at hh⟩
        simp only [List.map_cons, List.map_nil, List.cons_append, List.nil_append, List.length_cons, List.length_nil, List.getD_cons_zero, List.getD_cons_succ]
        rw [toByte_nat _ (by omega), toByte_nat _ (by omega), toByte_nat _ (by omega), toByte_nat _ (by omega)]
        unfold decodeN
        rw [if_neg (by omega), if_neg (by omega), if_neg (by omega), if_pos (by omega), if_pos (by omega)]
        apply Prod.ext
        · show _ = r.toNat; omega
        · rfl
end Go.Proofs.YtahpiminhlineaaDoor
