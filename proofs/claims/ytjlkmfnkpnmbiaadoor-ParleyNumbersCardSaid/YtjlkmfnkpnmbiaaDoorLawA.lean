/- The walks of three statements of the number layer: classes, order, the order's totality: each answers true for every input. No condition but that a word has 64 bits. -/
import Derived.Test.YtjlkmfnkpnmbiaaDoorAwake
namespace Go.Proofs.YtjlkmfnkpnmbiaaDoor
open Go.RowKit

theorem classes_any (u : Nat) (hu : u < 18446744073709551616) (w : World) :
    Calls Tryd.prog 3 #[.int .u64 u] w fun e w' => e = .returned (.bool true) ∧ Grown w w' := by
  have HU := Lib.hid hu
  clear hu
  go_enter Tryd.func3, Tryd.ntmps3
  go_wp2_with (first
    | (go_at_call 13; refine (of_nat _ _).mono ?_; rintro e w' ⟨rfl, rfl⟩)
    | (go_at_call 12; refine (class_any _ HU.out _).mono ?_; rintro e w' ⟨rfl, rfl⟩)
    | (go_at_call 14; refine (refclass_any _ HU.out _).mono ?_; rintro e w' ⟨rfl, rfl⟩)
    | (go_at_call 16; refine (bits_any _ HU.out _).mono ?_; rintro e w' ⟨rfl, rfl⟩)
    | (go_at_call 17; refine (refbits_any _ HU.out _).mono ?_; rintro e w' ⟨rfl, rfl⟩)
    | (go_at_call 15; refine (awake_any _).mono ?_; rintro e w1 ⟨rfl, hg⟩))
  go_ret
  exact ⟨rfl, hg⟩

def clampN (x lo hi : Nat) : Nat := if 0 < cmpN (if cmpN x lo < 0 then lo else x) hi then hi else (if cmpN x lo < 0 then lo else x)
theorem clamp_any (x lo hi : Nat) (hx : x < 18446744073709551616) (hlo : lo < 18446744073709551616) (hhi : hi < 18446744073709551616) (w : World) :
    Calls Tryd.prog 20 #[.float .f64 x, .float .f64 lo, .float .f64 hi] w fun e w' => e = .returned (.float .f64 (clampN x lo hi)) ∧ w = w' := by
  have H1 := Lib.hid hx
  have H2 := Lib.hid hlo
  have H3 := Lib.hid hhi
  clear hx hlo hhi
  by_cases c1 : cmpN x lo < 0
  · by_cases c2 : 0 < cmpN lo hi
    · have HR := Lib.hid (show clampN x lo hi = hi by unfold clampN; rw [if_pos c1, if_pos c2])
      go_enter Tryd.func20, Tryd.ntmps20
      go_wp2_with (go_at_call 19; refine (cmp_any _ _ (by first | exact H1.out | exact H2.out) (by first | exact H2.out | exact H3.out) _).mono ?_; rintro e w' ⟨rfl, rfl⟩)
      go_ret
      exact ⟨by rw [HR.out]; rfl, rfl⟩
    · have HR := Lib.hid (show clampN x lo hi = lo by unfold clampN; rw [if_pos c1, if_neg c2])
      go_enter Tryd.func20, Tryd.ntmps20
      go_wp2_with (go_at_call 19; refine (cmp_any _ _ (by first | exact H1.out | exact H2.out) (by first | exact H2.out | exact H3.out) _).mono ?_; rintro e w' ⟨rfl, rfl⟩)
      go_ret
      exact ⟨by rw [HR.out]; rfl, rfl⟩
  · by_cases c2 : 0 < cmpN x hi
    · have HR := Lib.hid (show clampN x lo hi = hi by unfold clampN; rw [if_neg c1, if_pos c2])
      go_enter Tryd.func20, Tryd.ntmps20
      go_wp2_with (go_at_call 19; refine (cmp_any _ _ (by first | exact H1.out | exact H2.out) (by first | exact H2.out | exact H3.out) _).mono ?_; rintro e w' ⟨rfl, rfl⟩)
      go_ret
      exact ⟨by rw [HR.out]; rfl, rfl⟩
    · have HR := Lib.hid (show clampN x lo hi = x by unfold clampN; rw [if_neg c1, if_neg c2])
      go_enter Tryd.func20, Tryd.ntmps20
      go_wp2_with (go_at_call 19; refine (cmp_any _ _ (by first | exact H1.out | exact H2.out) (by first | exact H2.out | exact H3.out) _).mono ?_; rintro e w' ⟨rfl, rfl⟩)
      go_ret
      exact ⟨by rw [HR.out]; rfl, rfl⟩
theorem order_any (a b c : Nat) (ha : a < 18446744073709551616) (hb : b < 18446744073709551616) (hc : c < 18446744073709551616) (w : World) :
    Calls Tryd.prog 4 #[.int .u64 a, .int .u64 b, .int .u64 c] w fun e w' => e = .returned (.bool true) ∧ Grown w w' := by
  have H1 := Lib.hid ha
  have H2 := Lib.hid hb
  have H3 := Lib.hid hc
  clear ha hb hc
  by_cases c1 : cmpN a b < 0
  · by_cases c2 : 0 < cmpN b c
    · have HR : clampN a b c = c := by unfold clampN; rw [if_pos c1, if_pos c2]
      go_enter Tryd.func4, Tryd.ntmps4
      go_wp2_with (first
        | (go_at_call 18; refine (refcmp_any _ _ (by first | exact H1.out | exact H2.out) (by first | exact H2.out | exact H3.out) _).mono ?_; rintro e w' ⟨rfl, rfl⟩)
        | (go_at_call 13; refine (of_nat _ _).mono ?_; rintro e w' ⟨rfl, rfl⟩)
        | (go_at_call 19; refine (cmp_any _ _ H1.out H2.out _).mono ?_; rintro e w' ⟨rfl, rfl⟩)
        | (go_at_call 20; refine (clamp_any _ _ _ H1.out H2.out H3.out _).mono ?_; rintro e w' ⟨rfl, rfl⟩)
        | (go_at_call 16; refine (bits_any _ (by first | exact H1.out | exact H2.out | exact H3.out) _).mono ?_; rintro e w' ⟨rfl, rfl⟩)
        | (go_at_call 17; refine (refbits_any _ (by first | exact H1.out | exact H2.out | exact H3.out) _).mono ?_; rintro e w' ⟨rfl, rfl⟩)
        | (go_at_call 15; refine (awake_any _).mono ?_; rintro e w1 ⟨rfl, hg⟩))
      go_ret
      exact ⟨rfl, hg⟩
    · have HR : clampN a b c = b := by unfold clampN; rw [if_pos c1, if_neg c2]
      go_enter Tryd.func4, Tryd.ntmps4
      go_wp2_with (first
        | (go_at_call 18; refine (refcmp_any _ _ (by first | exact H1.out | exact H2.out) (by first | exact H2.out | exact H3.out) _).mono ?_; rintro e w' ⟨rfl, rfl⟩)
        | (go_at_call 13; refine (of_nat _ _).mono ?_; rintro e w' ⟨rfl, rfl⟩)
        | (go_at_call 19; refine (cmp_any _ _ H1.out H2.out _).mono ?_; rintro e w' ⟨rfl, rfl⟩)
        | (go_at_call 20; refine (clamp_any _ _ _ H1.out H2.out H3.out _).mono ?_; rintro e w' ⟨rfl, rfl⟩)
        | (go_at_call 16; refine (bits_any _ (by first | exact H1.out | exact H2.out | exact H3.out) _).mono ?_; rintro e w' ⟨rfl, rfl⟩)
        | (go_at_call 17; refine (refbits_any _ (by first | exact H1.out | exact H2.out | exact H3.out) _).mono ?_; rintro e w' ⟨rfl, rfl⟩)
        | (go_at_call 15; refine (awake_any _).mono ?_; rintro e w1 ⟨rfl, hg⟩))
      go_ret
      exact ⟨rfl, hg⟩
  · by_cases c2 : 0 < cmpN a c
    · have HR : clampN a b c = c := by unfold clampN; rw [if_neg c1, if_pos c2]
      go_enter Tryd.func4, Tryd.ntmps4
      go_wp2_with (first
        | (go_at_call 18; refine (refcmp_any _ _ (by first | exact H1.out | exact H2.out) (by first | exact H2.out | exact H3.out) _).mono ?_; rintro e w' ⟨rfl, rfl⟩)
        | (go_at_call 13; refine (of_nat _ _).mono ?_; rintro e w' ⟨rfl, rfl⟩)
        | (go_at_call 19; refine (cmp_any _ _ H1.out H2.out _).mono ?_; rintro e w' ⟨rfl, rfl⟩)
        | (go_at_call 20; refine (clamp_any _ _ _ H1.out H2.out H3.out _).mono ?_; rintro e w' ⟨rfl, rfl⟩)
        | (go_at_call 16; refine (bits_any _ (by first | exact H1.out | exact H2.out | exact H3.out) _).mono ?_; rintro e w' ⟨rfl, rfl⟩)
        | (go_at_call 17; refine (refbits_any _ (by first | exact H1.out | exact H2.out | exact H3.out) _).mono ?_; rintro e w' ⟨rfl, rfl⟩)
        | (go_at_call 15; refine (awake_any _).mono ?_; rintro e w1 ⟨rfl, hg⟩))
      go_ret
      exact ⟨rfl, hg⟩
    · have HR : clampN a b c = a := by unfold clampN; rw [if_neg c1, if_neg c2]
      go_enter Tryd.func4, Tryd.ntmps4
      go_wp2_with (first
        | (go_at_call 18; refine (refcmp_any _ _ (by first | exact H1.out | exact H2.out) (by first | exact H2.out | exact H3.out) _).mono ?_; rintro e w' ⟨rfl, rfl⟩)
        | (go_at_call 13; refine (of_nat _ _).mono ?_; rintro e w' ⟨rfl, rfl⟩)
        | (go_at_call 19; refine (cmp_any _ _ H1.out H2.out _).mono ?_; rintro e w' ⟨rfl, rfl⟩)
        | (go_at_call 20; refine (clamp_any _ _ _ H1.out H2.out H3.out _).mono ?_; rintro e w' ⟨rfl, rfl⟩)
        | (go_at_call 16; refine (bits_any _ (by first | exact H1.out | exact H2.out | exact H3.out) _).mono ?_; rintro e w' ⟨rfl, rfl⟩)
        | (go_at_call 17; refine (refbits_any _ (by first | exact H1.out | exact H2.out | exact H3.out) _).mono ?_; rintro e w' ⟨rfl, rfl⟩)
        | (go_at_call 15; refine (awake_any _).mono ?_; rintro e w1 ⟨rfl, hg⟩))
      go_ret
      exact ⟨rfl, hg⟩

theorem rank_inj (a b : Nat) (ha : a < 18446744073709551616) (hb : b < 18446744073709551616) (h : rankN a = rankN b) : bitsN a = bitsN b := by
  have h1 := bitsN_lt a ha
  have h2 := bitsN_lt b hb
  unfold rankN negB at h
  generalize bitsN a = x at *
  generalize bitsN b = y at *
  split at h <;> split at h <;> rename_i c1 c2 <;> simp at c1 c2 <;> omega
theorem cmp_zero (a b : Nat) (ha : a < 18446744073709551616) (hb : b < 18446744073709551616) : (cmpN a b == 0) = ((bitsN a : Int) == (bitsN b : Int)) := by
  have e : (cmpN a b == 0) = decide (rankN a = rankN b) := by
    unfold cmpN
    by_cases c1 : rankN a < rankN b
    · rw [if_pos c1]; simp; omega
    · rw [if_neg c1]
      by_cases c2 : rankN b < rankN a
      · rw [if_pos c2]; simp; omega
      · rw [if_neg c2]; simp; omega
  rw [e]
  by_cases c : bitsN a = bitsN b
  · have : rankN a = rankN b := by unfold rankN; rw [c]
    simp [c, this]
  · have : ¬ rankN a = rankN b := fun h => c (rank_inj a b ha hb h)
    simp [this]; omega
theorem cmp_self (a : Nat) : cmpN a a = 0 := by unfold cmpN; simp
theorem cmp_cases (a b : Nat) : cmpN a b = -1 ∨ cmpN a b = 0 ∨ cmpN a b = 1 := by
  unfold cmpN; split
  · exact .inl rfl
  · split
    · exact .inr (.inr rfl)
    · exact .inr (.inl rfl)
theorem cmp_anti (a b : Nat) : cmpN b a = - cmpN a b := by
  unfold cmpN
  by_cases c1 : rankN a < rankN b
  · rw [if_pos c1, if_neg (by omega), if_pos c1]; rfl
  · by_cases c2 : rankN b < rankN a
    · simp [c1, c2]
    · rw [if_neg c1, if_neg c2, if_neg c2, if_neg c1]; rfl
theorem cmp_le (a b : Nat) : cmpN a b ≤ 0 ↔ rankN a ≤ rankN b := by
  unfold cmpN
  by_cases c1 : rankN a < rankN b
  · rw [if_pos c1]; omega
  · rw [if_neg c1]
    by_cases c2 : rankN b < rankN a
    · rw [if_pos c2]; omega
    · rw [if_neg c2]; omega

set_option maxRecDepth 100000 in
theorem total_any (a b c : Nat) (ha : a < 18446744073709551616) (hb : b < 18446744073709551616) (hc : c < 18446744073709551616) (w : World) :
    Calls Tryd.prog 9 #[.int .u64 a, .int .u64 b, .int .u64 c] w fun e w' => e = .returned (.bool true) ∧ Grown w w' := by
  have H1 := Lib.hid ha
  have H2 := Lib.hid hb
  have H3 := Lib.hid hc
  have z0 := cmp_zero a b ha hb
  have z1 := cmp_self a
  have z2 := cmp_anti a b
  have b1 : -1 ≤ cmpN a b ∧ cmpN a b ≤ 1 := by rcases cmp_cases a b with h | h | h <;> omega
  have t : cmpN a b ≤ 0 → cmpN b c ≤ 0 → ¬ 0 < cmpN a c := by
    intro h1 h2
    have := (cmp_le a b).1 h1
    have := (cmp_le b c).1 h2
    have := (cmp_le a c).2 (by omega)
    omega
  clear ha hb hc
  generalize hx : cmpN a b = x at *
  generalize hy : cmpN b c = y at *
  generalize hz : cmpN a c = z at *
  have Hx := Lib.hid hx
  have Hy := Lib.hid hy
  have Hz := Lib.hid hz
  have T := Lib.hid t
  obtain ⟨b1, b2⟩ := b1
  have nn : - (-x) = x := by omega
  clear hx hy hz t
  by_cases c1 : x ≤ 0
  · by_cases c2 : y ≤ 0
    · have c3 := T.out c1 c2
      clear T
      go_enter Tryd.func9, Tryd.ntmps9
      go_wp2_with (first
        | (go_at_call 13; refine (of_nat _ _).mono ?_; rintro e w' ⟨rfl, rfl⟩)
        | (go_at_call 19; refine (cmp_any _ _ (by first | exact H1.out | exact H2.out) (by first | exact H2.out | exact H3.out | exact H1.out) _).mono ?_; rintro e w' ⟨rfl, rfl⟩; first | rw [Hx.out] | rw [Hy.out] | rw [Hz.out] | rw [z1] | rw [z2])
        | (go_at_call 16; refine (bits_any _ (by first | exact H1.out | exact H2.out | exact H3.out) _).mono ?_; rintro e w' ⟨rfl, rfl⟩)
        | (go_at_call 15; refine (awake_any _).mono ?_; rintro e w1 ⟨rfl, hg⟩))
      go_ret
      exact ⟨rfl, hg⟩
    · clear T
      go_enter Tryd.func9, Tryd.ntmps9
      go_wp2_with (first
        | (go_at_call 13; refine (of_nat _ _).mono ?_; rintro e w' ⟨rfl, rfl⟩)
        | (go_at_call 19; refine (cmp_any _ _ (by first | exact H1.out | exact H2.out) (by first | exact H2.out | exact H3.out | exact H1.out) _).mono ?_; rintro e w' ⟨rfl, rfl⟩; first | rw [Hx.out] | rw [Hy.out] | rw [Hz.out] | rw [z1] | rw [z2])
        | (go_at_call 16; refine (bits_any _ (by first | exact H1.out | exact H2.out | exact H3.out) _).mono ?_; rintro e w' ⟨rfl, rfl⟩)
        | (go_at_call 15; refine (awake_any _).mono ?_; rintro e w1 ⟨rfl, hg⟩))
      go_ret
      exact ⟨rfl, hg⟩
  · clear T
    go_enter Tryd.func9, Tryd.ntmps9
    go_wp2_with (first
      | (go_at_call 13; refine (of_nat _ _).mono ?_; rintro e w' ⟨rfl, rfl⟩)
      | (go_at_call 19; refine (cmp_any _ _ (by first | exact H1.out | exact H2.out) (by first | exact H2.out | exact H3.out | exact H1.out) _).mono ?_; rintro e w' ⟨rfl, rfl⟩; first | rw [Hx.out] | rw [Hy.out] | rw [Hz.out] | rw [z1] | rw [z2])
      | (go_at_call 16; refine (bits_any _ (by first | exact H1.out | exact H2.out | exact H3.out) _).mono ?_; rintro e w' ⟨rfl, rfl⟩)
      | (go_at_call 15; refine (awake_any _).mono ?_; rintro e w1 ⟨rfl, hg⟩))
    go_ret
    exact ⟨rfl, hg⟩
end Go.Proofs.YtjlkmfnkpnmbiaaDoor
