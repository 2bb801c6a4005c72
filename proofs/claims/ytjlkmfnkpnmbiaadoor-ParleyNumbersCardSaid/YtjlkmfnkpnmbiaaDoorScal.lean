/- What the scalar functions of the number layer and of its reference answer: one contract a function. No condition but that a word has 64 bits. -/
import Derived.Test.YtjlkmfnkpnmbiaaDoorProg
import Derived.Test.YtjlkmfnkpnmbiaaDoorMath
import Derived.WalkKit
import Derived.Handy
import Derived.WalkLawsBesides
import Derived.Lib.Hide
namespace Go.Proofs.YtjlkmfnkpnmbiaaDoor
open Go.RowKit

theorem run_frombits (u : Int) (w : World) : (callFunc 40 #[.int .u64 u]).run Tryd.prog w = .ok (.value (.float .f64 u.toNat)) w := by
  rw [run_callFunc_extern Tryd.func40 (by kernel_rfl) (by kernel_rfl) (by kernel_rfl) (e := Extern.MathFloatBits.float64frombits) (by kernel_rfl)]; rfl
theorem run_floatbits (b : Nat) (w : World) : (callFunc 33 #[.float .f64 b]).run Tryd.prog w = .ok (.value (.int .u64 b)) w := by
  rw [run_callFunc_extern Tryd.func33 (by kernel_rfl) (by kernel_rfl) (by kernel_rfl) (e := Extern.MathFloatBits.float64bits) (by kernel_rfl)]; rfl

theorem of_any (u : Int) (w : World) :
    Calls Tryd.prog 13 #[.int .u64 u] w fun e w' => e = .returned (.float .f64 u.toNat) ∧ w = w' := by
  have hfb := run_frombits
  go_enter Tryd.func13, Tryd.ntmps13
  go_wp2
  go_ret
  exact ⟨rfl, rfl⟩
theorem of_nat (u : Nat) (w : World) :
    Calls Tryd.prog 13 #[.int .u64 (u : Int)] w fun e w' => e = .returned (.float .f64 u) ∧ w = w' := of_any u w
theorem bits_any (b : Nat) (hb : b < 18446744073709551616) (w : World) :
    Calls Tryd.prog 16 #[.float .f64 b] w fun e w' => e = .returned (.int .u64 (bitsN b)) ∧ w = w' := by
  have hn := nan_order b hb
  clear hb
  have hfb := run_floatbits
  cases h : nanB b
  · have hg : (bitsN b : Int) = b := by simp [bitsN, h]
    have Hg := Lib.hid hg
    clear hg
    rw [h] at hn
    go_enter Tryd.func16, Tryd.ntmps16
    go_wp2
    go_ret
    exact ⟨by rw [Hg.out]; rfl, rfl⟩
  · have hg : (bitsN b : Int) = 9221120237041090561 := by simp [bitsN, h]
    have Hg := Lib.hid hg
    clear hg
    rw [h] at hn
    go_enter Tryd.func16, Tryd.ntmps16
    go_wp2
    go_ret
    exact ⟨by rw [Hg.out]; rfl, rfl⟩
theorem refbits_any (b : Nat) (hb : b < 18446744073709551616) (w : World) :
    Calls Tryd.prog 17 #[.int .u64 b] w fun e w' => e = .returned (.int .u64 (bitsN b)) ∧ w = w' := by
  have hn := and_low b hb
  clear hb
  cases h : nanB b
  · have hg : (bitsN b : Int) = b := by simp [bitsN, h]
    have ht : decide (9218868437227405312 < ((b % 9223372036854775808 : Nat) : Int)) = false := by unfold nanB at h; simp at h ⊢; omega
    rw [← hn] at ht
    have Hg := Lib.hid hg
    clear hg hn h
    go_enter Tryd.func17, Tryd.ntmps17
    go_wp2
    go_ret
    exact ⟨by rw [Hg.out]; rfl, rfl⟩
  · have hg : (bitsN b : Int) = 9221120237041090561 := by simp [bitsN, h]
    have ht : decide (9218868437227405312 < ((b % 9223372036854775808 : Nat) : Int)) = true := by unfold nanB at h; simp at h ⊢; omega
    rw [← hn] at ht
    have Hg := Lib.hid hg
    clear hg hn h
    go_enter Tryd.func17, Tryd.ntmps17
    go_wp2
    go_ret
    exact ⟨by rw [Hg.out]; rfl, rfl⟩
theorem isnan_any (b : Nat) (hb : b < 18446744073709551616) (w : World) :
    Calls Tryd.prog 43 #[.float .f64 b] w fun e w' => e = .returned (.bool (nanB b)) ∧ w = w' := by
  rw [← nan_order b hb]
  clear hb
  go_enter Tryd.func43, Tryd.ntmps43
  go_wp2
  go_ret
  exact ⟨rfl, rfl⟩
theorem rank_any (b : Nat) (hb : b < 18446744073709551616) (w : World) :
    Calls Tryd.prog 44 #[.float .f64 b] w fun e w' => e = .returned (.int .u64 (rankN b)) ∧ w = w' := by
  have hl := bitsN_lt b hb
  have hs := and_sign (bitsN b) hl
  cases h : negB (bitsN b)
  · have hg : bits .or .u64 (bitsN b : Int) 9223372036854775808 = (rankN b : Int) := by
      rw [or_sign _ (by unfold negB at h; simp at h; omega)]; simp [rankN, h]
    have HB := Lib.hid hb
    have Hg := Lib.hid hg
    rw [h] at hs
    clear hg hl hb h
    go_enter Tryd.func44, Tryd.ntmps44
    go_wp2_with (go_at_call 16; refine (bits_any _ HB.out _).mono ?_; rintro e w' ⟨rfl, rfl⟩)
    go_ret
    exact ⟨by rw [← Hg.out]; rfl, rfl⟩
  · have hg : bits .xor .u64 IntKind.u64.max (bitsN b : Int) = (rankN b : Int) := by
      rw [not_u64 _ hl]; simp [rankN, h]
    have HB := Lib.hid hb
    have Hg := Lib.hid hg
    rw [h] at hs
    clear hg hl hb h
    go_enter Tryd.func44, Tryd.ntmps44
    go_wp2_with (go_at_call 16; refine (bits_any _ HB.out _).mono ?_; rintro e w' ⟨rfl, rfl⟩)
    go_ret
    exact ⟨by rw [← Hg.out]; rfl, rfl⟩
theorem cmp_any (a b : Nat) (ha : a < 18446744073709551616) (hb : b < 18446744073709551616) (w : World) :
    Calls Tryd.prog 19 #[.float .f64 a, .float .f64 b] w fun e w' => e = .returned (.int .i64 (cmpN a b)) ∧ w = w' := by
  have HA := Lib.hid ha
  have HB := Lib.hid hb
  clear ha hb
  by_cases h1 : rankN a < rankN b
  · have Hg := Lib.hid (show cmpN a b = -1 by unfold cmpN; rw [if_pos h1])
    go_enter Tryd.func19, Tryd.ntmps19
    go_wp2_with (go_at_call 44; refine (rank_any _ (by first | exact HA.out | exact HB.out) _).mono ?_; rintro e w' ⟨rfl, rfl⟩)
    go_ret
    exact ⟨by rw [Hg.out]; rfl, rfl⟩
  · by_cases h2 : rankN b < rankN a
    · have Hg := Lib.hid (show cmpN a b = 1 by unfold cmpN; rw [if_neg h1, if_pos h2])
      go_enter Tryd.func19, Tryd.ntmps19
      go_wp2_with (go_at_call 44; refine (rank_any _ (by first | exact HA.out | exact HB.out) _).mono ?_; rintro e w' ⟨rfl, rfl⟩)
      go_ret
      exact ⟨by rw [Hg.out]; rfl, rfl⟩
    · have Hg := Lib.hid (show cmpN a b = 0 by unfold cmpN; rw [if_neg h1, if_neg h2])
      go_enter Tryd.func19, Tryd.ntmps19
      go_wp2_with (go_at_call 44; refine (rank_any _ (by first | exact HA.out | exact HB.out) _).mono ?_; rintro e w' ⟨rfl, rfl⟩)
      go_ret
      exact ⟨by rw [Hg.out]; rfl, rfl⟩
theorem kind_any (c : Nat) (hc : c < 18446744073709551616) (w : World) :
    Calls Tryd.prog 42 #[.int .u64 c] w fun e w' => e = .returned (.int .i64 (kindN c)) ∧ w = w' := by
  have e1 := and_exp c hc
  have e2 := and_frac c hc
  have hg : ∀ K F : Nat, c / 4503599627370496 % 2048 = K → c % 4503599627370496 = F → kindN c = if K = 2047 then (if F = 0 then 3 else 4) else if K = 0 then (if F = 0 then 0 else 1) else 2 := by
    rintro K F rfl rfl; rfl
  have Hg := Lib.hid (hg _ _ rfl rfl)
  clear hg hc
  generalize hK : c / 4503599627370496 % 2048 = K at *
  generalize hF : c % 4503599627370496 = F at *
  clear hK hF
  by_cases k1 : K = 2047
  · subst k1
    by_cases f0 : F = 0
    · subst f0
      have HR := Lib.hid (show kindN c = 3 by rw [Hg.out]; rfl)
      clear Hg
      go_enter Tryd.func42, Tryd.ntmps42
      go_wp2
      go_ret
      exact ⟨by rw [HR.out]; rfl, rfl⟩
    · skip
      have HR := Lib.hid (show kindN c = 4 by rw [Hg.out]; rw [if_pos rfl, if_neg f0])
      clear Hg
      go_enter Tryd.func42, Tryd.ntmps42
      go_wp2
      go_ret
      exact ⟨by rw [HR.out]; rfl, rfl⟩
  · by_cases k0 : K = 0
    · subst k0
      by_cases f0 : F = 0
      · subst f0
        have HR := Lib.hid (show kindN c = 0 by rw [Hg.out]; rfl)
        clear Hg
        go_enter Tryd.func42, Tryd.ntmps42
        go_wp2
        go_ret
        exact ⟨by rw [HR.out]; rfl, rfl⟩
      · skip
        have HR := Lib.hid (show kindN c = 1 by rw [Hg.out]; rw [if_neg k1, if_pos rfl, if_neg f0])
        clear Hg
        go_enter Tryd.func42, Tryd.ntmps42
        go_wp2
        go_ret
        exact ⟨by rw [HR.out]; rfl, rfl⟩
    · skip
      have HR := Lib.hid (show kindN c = 2 by rw [Hg.out]; rw [if_neg k1, if_neg k0])
      clear Hg
      go_enter Tryd.func42, Tryd.ntmps42
      go_wp2
      go_ret
      exact ⟨by rw [HR.out]; rfl, rfl⟩
theorem class_any (b : Nat) (hb : b < 18446744073709551616) (w : World) :
    Calls Tryd.prog 12 #[.float .f64 b] w fun e w' => e = .returned (.tuple #[.bool (negB (bitsN b)), .int .i64 (kindN (bitsN b))]) ∧ w = w' := by
  have hl := Lib.hid (bitsN_lt b hb)
  have hs := and_sign (bitsN b) hl.out
  have HB := Lib.hid hb
  clear hb
  go_enter Tryd.func12, Tryd.ntmps12
  go_wp2_with (first | (go_at_call 16; refine (bits_any _ HB.out _).mono ?_; rintro e w' ⟨rfl, rfl⟩) | (go_at_call 42; refine (kind_any _ hl.out _).mono ?_; rintro e w' ⟨rfl, rfl⟩))
  go_ret2
  exact ⟨rfl, rfl⟩
end Go.Proofs.YtjlkmfnkpnmbiaaDoor
